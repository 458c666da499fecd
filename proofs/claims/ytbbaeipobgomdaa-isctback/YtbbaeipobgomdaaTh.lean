/- The second writing's Tokens. -/
import Derived.Test.YtbbaeipobgomdaaTf
import Derived.Test.YtbbaeipobgomdaaTg
namespace Go.Proofs.Ytbbaeipobgomdaa
open Go.ChangeShapes Go.WideShapes Go.RowKit Go.Sort
set_option maxHeartbeats 2000000 in
set_option maxRecDepth 100000 in
theorem longR_no (a : Option Addr) (n c : Nat) (w : World) (hn : n ≤ 1000000) :
    Calls Try.prog 17 #[.slice a n c] w fun e w' => e = .returned (.tuple #[.agg #[.int .i64 0, .int .i64 0], .bool false]) ∧ Below w.heap.size w w' := by
  go_enter Try.func17, Try.ntmps17
  go_wp2
  exact bodyPost_ret (v := .tuple #[.agg #[.int .i64 0, .int .i64 0], .bool false]) (by simp [results, Try.results17, go_sem]) rfl ⟨rfl, ball (Below.refl _ _)⟩
set_option maxHeartbeats 2000000 in
set_option maxRecDepth 100000 in
theorem syntaxR_x (x : Int) (w : World) :
    Calls Try.prog 19 #[.int .i64 x] w fun e w' => e = .returned (.agg #[.int .i64 1, .int .i64 x]) ∧ Below w.heap.size w w' := by
  go_enter Try.func19, Try.ntmps19
  go_wp2
  exact bodyPost_ret (v := .agg #[.int .i64 1, .int .i64 x]) (by simp [results, Try.results19, go_sem]) rfl ⟨rfl, ball (Below.refl _ _)⟩
theorem blank_no {b : UInt8} (h : blankB b = false) : ((b.toNat : Int) == 32) = false ∧ ((b.toNat : Int) == 9) = false ∧ ((b.toNat : Int) == 10) = false ∧ ((b.toNat : Int) == 13) = false := by
  have : ∀ n, n < 256 → blankB (UInt8.ofNat n) = false → ((n : Int) == 32) = false ∧ ((n : Int) == 9) = false ∧ ((n : Int) == 10) = false ∧ ((n : Int) == 13) = false := by decide +kernel
  have e := this b.toNat b.toNat_lt
  rw [show UInt8.ofNat b.toNat = b by simp] at e
  exact e h
theorem sign_no {b : UInt8} (h : signB b = false) : ((b.toNat : Int) == 123) = false ∧ ((b.toNat : Int) == 125) = false ∧ ((b.toNat : Int) == 59) = false ∧ ((b.toNat : Int) == 44) = false := by
  have : ∀ n, n < 256 → signB (UInt8.ofNat n) = false → ((n : Int) == 123) = false ∧ ((n : Int) == 125) = false ∧ ((n : Int) == 59) = false ∧ ((n : Int) == 44) = false := by decide +kernel
  have e := this b.toNat b.toNat_lt
  rw [show UInt8.ofNat b.toNat = b by simp] at e
  exact e h
theorem blank_yes {b : UInt8} (h : blankB b = true) : b = 32 ∨ b = 9 ∨ b = 10 ∨ b = 13 := by simp [blankB] at h; rcases h with ((h | h) | h) | h <;> simp [h]
theorem sign_yes {b : UInt8} (h : signB b = true) : b = 123 ∨ b = 125 ∨ b = 59 ∨ b = 44 := by simp [signB] at h; rcases h with ((h | h) | h) | h <;> simp [h]
theorem sign_blank {b : UInt8} (h : signB b = true) : blankB b = false ∧ b ≠ 35 := by rcases sign_yes h with rfl | rfl | rfl | rfl <;> decide
theorem eq_no {b : UInt8} {k : Nat} (hk : k < 256) (h : b ≠ UInt8.ofNat k) : ((b.toNat : Int) == (k : Int)) = false := by
  rw [beq_eq_false_iff_ne]; exact fun e => h ((byte_is hk).1 e)
theorem com_start {l : Bs} {j : Nat} (h : l[j]? = some 35) : tokA .top j (l.drop j) = tokA .com j (l.drop j) := by
  rw [drop_cons8 h, top_com]
  have := tok_com [35] j (l.drop (j + 1)) (by decide)
  exact this.symm
theorem com_go {l : Bs} {m : Nat} {b : UInt8} (h : l[m]? = some b) (hb : b ≠ 10) : tokA .com m (l.drop m) = tokA .com (m + 1) (l.drop (m + 1)) := by
  rw [drop_cons8 h]
  exact tok_com [b] m (l.drop (m + 1)) (by simp; exact fun e => hb e.symm)
set_option maxHeartbeats 16000000 in
set_option maxRecDepth 100000 in
theorem tokensR_some (l : Bs) (ad : Addr) (c : Nat) (w : World) (h : BytesAt w (some ad) l) (hc : l.length ≤ c) (hl : l.length ≤ 1000000) :
    Calls Try.prog 10 #[.slice (some ad) l.length c] w fun e w' => TokensE w l e w' := by
  have HH := Lib.hid h
  clear h
  go_enter Try.func10, Try.ntmps10
  go_upto_region 1 with fail
  generalize hw0 : w.alloc _ = w0
  have B0 : Below w.heap.size w w0 := hw0 ▸ ball (Below.refl _ _)
  have E0 : ErrAt w0 w.heap.size := by subst hw0; exact ⟨by simp [go_sem], by simp [go_sem], fun o => by simp [go_sem], by simp [go_sem]⟩
  clear hw0
  go_wp2_with fail
  refine (longR_no (some ad) l.length c _ hl).mono ?_
  rintro e w1 ⟨rfl, hb1⟩
  have B1 := below_next B0 hb1
  have E1 := E0.next hb1
  clear hb1 B0 E0
  go_upto_region 4 with fail
  generalize hw2 : w1.alloc _ = w3
  have B3 : Below w.heap.size w w3 := hw2 ▸ ball B1
  have E3 : ErrAt w3 w.heap.size := hw2 ▸ E1.next (ball (Below.refl _ _))
  clear hw2 B1 E1
  have H3 := Lib.hid (HH.out.below B3)
  have HC := Lib.hid (fun V (hV : BytesAt V (some ad) l) => bytesAt_cell hV)
  have HT := Lib.hid (fun i V (hV : BytesAt V (some ad) l) (hi : i ≤ l.length) => textR_x l ad c i V hV hl hi)
  have HP := Lib.hid (fun V (hV : BytesAt V (some ad) l) i j (hj : j ≤ l.length) => piece_at hV hc i j hj)
  clear HH
  go_wp2_with fail
  go_loopw [6, 7] (fun sv iv wr => ∃ (acc : List Tk) (j : Nat) (p : Option Addr) (q : Nat), sv = .slice p acc.length q ∧ iv = .int .i64 (j : Int) ∧ acc.length ≤ j ∧ j ≤ l.length ∧ Hid (tokV l = (tokA .top j (l.drop j)).pre acc) ∧ wr.ownsRow w3.heap.size 33 3 (.slice p acc.length q) acc.length (acc.flatMap cellsK) ∧ Below w3.heap.size w3 wr) (fun _ iv _ => l.length + 1 - intN iv)
  case atStart => exact ⟨[], 0, none, 0, rfl, rfl, Nat.zero_le _, Nat.zero_le _, Lib.hid (by rw [TR.pre_nil]; rfl), World.ownsRow_nil _ _ _ _, Below.refl _ _⟩
  case round =>
    obtain ⟨acc, j, p, q, rfl, rfl, haj, hjl, hp, hown, hb⟩ := hrel
    have hzs := hb.size
    have EW := E3.next hb
    have BB : Below w.heap.size w wr := below_next B3 hb
    by_cases hlt : j < l.length
    · have HB := Lib.hid (H3.out.below hb)
      have hcell := HC.out wr HB.out j hlt
      have hget := Lib.hid (List.getElem?_eq_getElem hlt)
      generalize l[j]'hlt = b at *
      by_cases hbl : blankB b = true
      · have HF : Hid (tokV l = (tokA .top (j + 1) (l.drop (j + 1))).pre acc) := Lib.hid (by rw [hp.out, blank_at hget.out hbl])
        clear HC HT HP hp hget EW BB
        rcases blank_yes hbl with rfl | rfl | rfl | rfl
        all_goals clear hbl
        all_goals go_wp2
        all_goals exact ⟨⟨acc, j + 1, p, q, rfl, by simp, by omega, by omega, HF, hown, hb⟩, by simp [intN]; omega⟩
      · have hbl : blankB b = false := by simpa using hbl
        obtain ⟨n1, n2, n3, n4⟩ := blank_no hbl
        by_cases h35 : b = 35
        · subst h35
          have HI : Hid (tokA .top j (l.drop j) = tokA .com j (l.drop j)) := Lib.hid (com_start hget.out)
          have HN : Hid (¬ l[j]? = some 10) := Lib.hid (by rw [hget.out]; decide)
          clear hbl n1 n2 n3 n4 hget HT HP EW BB
          go_wp2_with fail
          go_loopw [7] (fun iv w' => ∃ m : Nat, iv = .int .i64 (m : Int) ∧ j ≤ m ∧ m ≤ l.length ∧ Hid (tokA .top j (l.drop j) = tokA .com m (l.drop m)) ∧ w' = wr) (fun iv _ => l.length + 1 - intN iv)
          case atStart => exact ⟨j, rfl, Nat.le_refl _, hjl, HI, rfl⟩
          case round =>
            obtain ⟨m, rfl, hjm, hml, hm, rfl⟩ := hrel
            clear hcell HI
            by_cases hlt2 : m < l.length
            · have hcell2 := HC.out _ HB.out m hlt2
              have hget2 := Lib.hid (List.getElem?_eq_getElem hlt2)
              generalize l[m]'hlt2 = b2 at *
              by_cases h10 : b2 = 10
              · subst h10
                have hjm2 : j < m := by
                  rcases Nat.lt_or_ge j m with h | h
                  · exact h
                  · exact absurd (by rw [show j = m by omega]; exact hget2.out) HN.out
                have HF : Hid (tokV l = (tokA .top m (l.drop m)).pre acc) := Lib.hid (by rw [hp.out, hm.out, com_end _ _ (fun c q e => by have := drop_head e; rw [hget2.out] at this; cases this; rfl)])
                clear hget2 HC hm HN hp
                go_wp2
                exact ⟨⟨acc, m, p, q, rfl, rfl, by omega, hml, HF, hown, hb⟩, by simp [intN]; omega⟩
              · have HM : Hid (tokA .top j (l.drop j) = tokA .com (m + 1) (l.drop (m + 1))) := Lib.hid (by rw [hm.out]; exact com_go hget2.out h10)
                have h10' : ((b2.toNat : Int) != 10) = true := by simpa using fun e => h10 ((byte_is (c := b2) (k := 10) (by decide)).1 e)
                clear hget2 HC hm h10 HN hp
                generalize b2.toNat = u at *
                go_wp2
                exact ⟨⟨m + 1, by simp, by omega, by omega, HM, trivial⟩, by simp [intN]; omega⟩
            · have HF : Hid (tokV l = (tokA .top m (l.drop m)).pre acc) := Lib.hid (by rw [hp.out, hm.out, com_end _ _ (fun c q e => by have := drop_head e; rw [List.getElem?_eq_none (by omega)] at this; cases this)])
              obtain rfl : m = l.length := by omega
              clear HC hm HN hp
              go_wp2
              exact ⟨⟨acc, l.length, p, q, rfl, rfl, by omega, hml, HF, hown, hb⟩, by simp [intN]; omega⟩
        · have h35' : ((b.toNat : Int) == 35) = false := eq_no (k := 35) (by decide) h35
          by_cases hs : signB b = true
          · have HF : Hid (tokV l = (tokA .top (j + 1) (l.drop (j + 1))).pre (acc ++ [(4, [b], j)])) := Lib.hid (by rw [hp.out, sign_at hget.out hs, TR.pre_pre])
            have hv := HP.out wr HB.out j (j + 1) hlt
            rw [piece_snoc hget.out (Nat.le_refl _), piece_nil, List.nil_append] at hv
            have hsl := fun V => sl_lh (some ad) l.length c j (j + 1) (Nat.le_succ _) (by omega) V
            have hpre : IntKind.i64.wrap ((j : Int) + 1) = ((j + 1 : Nat) : Int) := by rw [IntKind.wrap_i64]; omega
            have ecell : cellsK (4, [b], j) = [.int .i64 4, .string (baS [b]), .int .i64 (j : Int)] := rfl
            have HE := Lib.hid ecell
            have hi1 : j < j + 1 := Nat.lt_succ_self _
            have hi2 : j + 1 ≤ l.length := hlt
            clear HC HT HP hp hget EW BB ecell hbl h35
            generalize j + 1 = j1 at *
            generalize baS [b] = sb at *
            rcases sign_yes hs with rfl | rfl | rfl | rfl
            all_goals clear hs n1 n2 n3 n4 h35'
            all_goals go_wp2_with (at_builtin; refine appK _ (by rfl) _ _ (by rfl) w3.heap.size p q acc (by rfl) (hown.alloc _) wr.heap.size 1 (4, [_], j) (by rfl) (by rw [HE.out]; exact three8) (by omega) (by simp; omega) ?_)
            all_goals intro g3 cap w6 hA
            all_goals obtain ⟨hown6, hbel⟩ := hA
            all_goals have hb6 := hbel w3.heap.size w3 (Nat.le_refl _) (hb.alloc hzs _)
            all_goals clear hbel hown hb hv hsl
            all_goals go_wp2
            all_goals exact ⟨⟨_, j1, some ⟨g3, 0, none⟩, cap, by simp, rfl, by simp; omega, hi2, HF, by simpa using hown6, hb6⟩, by simp [intN]; omega⟩
          · have hs : signB b = false := by simpa using hs
            obtain ⟨g1, g2, g3, g4⟩ := sign_no hs
            by_cases hq : b = 34
            · subst hq
              have hcall := Lib.hid (HT.out (j + 1) wr HB.out hlt)
              generalize hr : txtG [] (l.drop (j + 1)) (j + 1) = r at hcall
              have hpre : IntKind.i64.wrap ((j : Int) + 1) = ((j + 1 : Nat) : Int) := by rw [IntKind.wrap_i64]; omega
              cases r with
              | inr x =>
                have HF : Hid (tokV l = .bad 1 x) := Lib.hid (by rw [hp.out, text_bad hget.out hr]; rfl)
                clear hr hp hget HC HT HP hs g1 g2 g3 g4 h35
                generalize j + 1 = j1 at *
                go_wp2_with fail
                refine hcall.out.mono ?_
                rintro e w4 ⟨rfl, hb4⟩
                have E4 := EW.next hb4
                have B4 := below_next BB hb4
                unfold TextR
                clear hcall hb4 EW BB hown hb
                go_wp2_with fail
                refine (syntaxR_x x w4).mono ?_
                rintro e w5 ⟨rfl, hb5⟩
                have E5 := E4.next hb5
                have B5 := below_next B4 hb5
                have e0 := E5.c0
                have e1 := E5.c1
                have ef := E5.fz
                clear hb5 E4 B4
                go_wp2_with fail
                generalize hw6 : (World.setCell _ _ _).setCell _ _ = w6
                obtain ⟨s0, s1, B6⟩ := err_plain E5 B5 (Nat.le_refl _) hw6
                clear hw6 e0 e1 ef E5 B5
                exact bodyPost_ret (v := .tuple #[.slice none 0 0, .agg #[.int .i64 1, .int .i64 (x : Int)]]) (by simp [results, Try.results10, go_sem, s0, s1]) rfl (TokensE.bad HF.out B6)
              | inl r =>
                obtain ⟨s, k⟩ := r
                obtain ⟨hjk, hkl, hsl, htok⟩ := text_at hget.out hr
                have HK : Hid (tokV l = if 255 < s.length then .bad 2 j else (tokA .top k (l.drop k)).pre (acc ++ [(3, s, j)])) := Lib.hid (by
                  rw [hp.out, htok]
                  split
                  · rfl
                  · rw [TR.pre_pre])
                have hsz := baS_size s
                clear hr hp hget HC HT HP hs g1 g2 g3 g4 h35 htok
                generalize j + 1 = j1 at *
                go_wp2_with fail
                refine hcall.out.mono ?_
                rintro e w4 ⟨rfl, hb4⟩
                have E4 := EW.next hb4
                have B4 := below_next BB hb4
                have hown4 := own_next hown hb4
                have hb4' := below_next hb hb4
                have hzs4 := hb4'.size
                rw [show TextR (.inl (s, k)) = .tuple #[.string (baS s), .int .i64 (k : Int), .int .i64 (-1)] from rfl]
                clear hcall hb4 EW BB hown hb hzs
                by_cases hbig : 255 < s.length
                · have HF : Hid (tokV l = .bad 2 j) := Lib.hid (by rw [HK.out, if_pos hbig])
                  have e0 := E4.c0
                  have e1 := E4.c1
                  have ef := E4.fz
                  have hbig' : 255 < (baS s).size := by rw [hsz]; exact hbig
                  clear HK hsz hbig
                  generalize baS s = S at *
                  go_wp2_with fail
                  generalize hw6 : (World.setCell _ _ _).setCell _ _ = w6
                  obtain ⟨s0, s1, B6⟩ := err_plain E4 B4 (Nat.le_refl _) hw6
                  clear hw6 e0 e1 ef E4 B4
                  exact bodyPost_ret (v := .tuple #[.slice none 0 0, .agg #[.int .i64 2, .int .i64 (j : Int)]]) (by simp [results, Try.results10, go_sem, s0, s1]) rfl (TokensE.bad HF.out B6)
                · have HF : Hid (tokV l = (tokA .top k (l.drop k)).pre (acc ++ [(3, s, j)])) := Lib.hid (by rw [HK.out, if_neg hbig])
                  have hbig' : (baS s).size ≤ 255 := by rw [hsz]; omega
                  have ecell : cellsK (3, s, j) = [.int .i64 3, .string (baS s), .int .i64 (j : Int)] := rfl
                  have HE := Lib.hid ecell
                  clear HK hsz hbig ecell
                  generalize baS s = S at *
                  go_wp2_with (at_builtin; refine appK _ (by rfl) _ _ (by rfl) w3.heap.size p q acc (by rfl) (hown4.alloc _) w4.heap.size 1 (3, s, j) (by rfl) (by rw [HE.out]; exact three8) (by omega) (by simp; omega) ?_)
                  intro g3 cap w6 hA
                  obtain ⟨hown6, hbel⟩ := hA
                  have hb6 := hbel w3.heap.size w3 (Nat.le_refl _) (hb4'.alloc hzs4 _)
                  clear hbel hown4 hb4' B4 E4
                  go_wp2
                  exact ⟨⟨_, k, some ⟨g3, 0, none⟩, cap, by simp, rfl, by simp; omega, hkl, HF, by simpa using hown6, hb6⟩, by simp [intN]; omega⟩
            · have hq' : ((b.toNat : Int) == 34) = false := eq_no (k := 34) (by decide) hq
              by_cases hw : wordB b = true
              · have HX := Lib.hid (fun V => wordR_x b V)
                have HW := Lib.hid hw
                rw [hw] at HX
                clear HT
                generalize b.toNat = u at *
                go_wp2_with fail
                refine (HX.out _).mono ?_
                rintro e w' ⟨rfl, rfl⟩
                clear HX n1 n2 n3 n4 g1 g2 g3 g4 h35' hq' hcell
                go_wp2_with fail
                go_loopw [12] (fun kv wk => ∃ m : Nat, kv = .int .i64 (m : Int) ∧ j ≤ m ∧ m ≤ l.length ∧ Hid (∀ c ∈ pieceV l j m, wordB c = true) ∧ wk = w') (fun kv _ => l.length + 1 - intN kv)
                case atStart => exact ⟨j, rfl, Nat.le_refl _, hjl, Lib.hid (by rw [piece_nil]; simp), rfl⟩
                case round =>
                  obtain ⟨m, rfl, hjm, hml, hm, rfl⟩ := hrel
                  by_cases hlt2 : m < l.length
                  · have hcell2 := HC.out _ HB.out m hlt2
                    have hget2 := Lib.hid (List.getElem?_eq_getElem hlt2)
                    generalize l[m]'hlt2 = b2 at *
                    have HX2 := Lib.hid (fun V => wordR_x b2 V)
                    by_cases hw2 : wordB b2 = true
                    · have HM : Hid (∀ c ∈ pieceV l j (m + 1), wordB c = true) := Lib.hid (by
                        rw [piece_snoc hget2.out hjm]; intro c hc; simp at hc; rcases hc with hc | hc; exact hm.out c hc; rw [hc]; exact hw2)
                      rw [hw2] at HX2
                      clear hget2 HC hm hw2 hp HP hget HW EW BB
                      generalize b2.toNat = u2 at *
                      go_wp2_with fail
                      refine (HX2.out _).mono ?_
                      rintro e w'' ⟨rfl, rfl⟩
                      clear HX2
                      go_wp2
                      exact ⟨⟨m + 1, by simp, by omega, by omega, HM, trivial⟩, by simp [intN]; omega⟩
                    · have hw2 : wordB b2 = false := by simpa using hw2
                      have HNW : Hid (∀ c, l[m]? = some c → wordB c = false) := Lib.hid (fun c hc => by rw [hget2.out] at hc; cases hc; exact hw2)
                      rw [hw2] at HX2
                      clear hget2 hw2
                      generalize b2.toNat = u2 at *
                      go_wp2_with fail
                      refine (HX2.out _).mono ?_
                      rintro e w'' ⟨rfl, rfl⟩
                      clear HX2 hcell2
                      have HWT : Hid (WordTo l j m) := Lib.hid ⟨hjm, hml, hm.out, HNW.out⟩
                      have hjm2 : j < m := by
                        rcases Nat.lt_or_ge j m with h | h
                        · exact h
                        · have := HWT.out.2.2.2 b (by rw [show m = j by omega]; exact hget.out)
                          rw [HW.out] at this; cases this
                      have hv := HP.out _ HB.out j m hml
                      have hsl := fun V => sl_lh (some ad) l.length c j m hjm (by omega) V
                      have hpre : IntKind.i64.wrap ((m : Int) - (j : Int)) = ((m - j : Nat) : Int) := by rw [IntKind.wrap_i64]; omega
                      have HF0 := Lib.hid (word_at HWT.out hjm2)
                      have hlen := piece_len (l := l) (f := j) hml
                      by_cases hbig : 255 < m - j
                      · have HF : Hid (tokV l = .bad 2 j) := Lib.hid (by rw [hp.out, HF0.out, if_pos hbig]; rfl)
                        have e0 := EW.c0
                        have e1 := EW.c1
                        have ef := EW.fz
                        clear HWT HF0 HP hv hsl hm hget hlen hp HC
                        generalize m - j = z at *
                        go_wp2_with fail
                        generalize hw6 : (World.setCell _ _ _).setCell _ _ = w6
                        obtain ⟨s0, s1, B6⟩ := err_plain EW BB (Nat.le_refl _) hw6
                        clear hw6 e0 e1 ef EW BB
                        exact bodyPost_ret (v := .tuple #[.slice none 0 0, .agg #[.int .i64 2, .int .i64 (j : Int)]]) (by simp [results, Try.results10, go_sem, s0, s1]) rfl (TokensE.bad HF.out B6)
                      · have HF : Hid (tokV l = (tokA .top m (l.drop m)).pre (acc ++ [(2, pieceV l j m, j)])) := Lib.hid (by rw [hp.out, HF0.out, if_neg hbig, TR.pre_pre])
                        have ecell : cellsK (2, pieceV l j m, j) = [.int .i64 2, .string (baS (pieceV l j m)), .int .i64 (j : Int)] := rfl
                        have HE := Lib.hid ecell
                        have hbig' : m - j ≤ 255 := by omega
                        clear HWT HF0 HP hm hget hlen hp HC ecell hbig EW BB
                        generalize m - j = z at *
                        generalize baS (pieceV l j m) = S at *
                        go_wp2_with (at_builtin; refine appK _ (by rfl) _ _ (by rfl) w3.heap.size p q acc (by rfl) (hown.alloc _) (World.heap _).size 1 (2, pieceV l j m, j) (by rfl) (by rw [HE.out]; exact three8) (by omega) (by simp; omega) ?_)
                        intro g3 cap w6 hA
                        obtain ⟨hown6, hbel⟩ := hA
                        have hb6 := hbel w3.heap.size w3 (Nat.le_refl _) (hb.alloc hzs _)
                        clear hbel hown hb hv hsl
                        go_wp2
                        exact ⟨⟨_, m, some ⟨g3, 0, none⟩, cap, by simp, rfl, by simp; omega, hml, HF, by simpa using hown6, hb6⟩, by simp [intN]; omega⟩
                  · obtain rfl : m = l.length := by omega
                    have HWT : Hid (WordTo l j l.length) := Lib.hid ⟨hjm, hml, hm.out, fun c hc => by simp at hc⟩
                    have hjm2 : j < l.length := by
                      rcases Nat.lt_or_ge j l.length with h | h
                      · exact h
                      · have := HWT.out.2.2.2 b (by rw [show l.length = j by omega]; exact hget.out)
                        rw [HW.out] at this; cases this
                    have hv := HP.out _ HB.out j l.length hml
                    have hsl := fun V => sl_lh (some ad) l.length c j l.length hjm (by omega) V
                    have hpre : IntKind.i64.wrap ((l.length : Int) - (j : Int)) = ((l.length - j : Nat) : Int) := by rw [IntKind.wrap_i64]; omega
                    have HF0 := Lib.hid (word_at HWT.out hjm2)
                    have hlen := piece_len (l := l) (f := j) hml
                    by_cases hbig : 255 < l.length - j
                    · have HF : Hid (tokV l = .bad 2 j) := Lib.hid (by rw [hp.out, HF0.out, if_pos hbig]; rfl)
                      have e0 := EW.c0
                      have e1 := EW.c1
                      have ef := EW.fz
                      clear HWT HF0 HP hv hsl hm hget hlen hp HC
                      generalize l.length - j = z at *
                      go_wp2_with fail
                      generalize hw6 : (World.setCell _ _ _).setCell _ _ = w6
                      obtain ⟨s0, s1, B6⟩ := err_plain EW BB (Nat.le_refl _) hw6
                      clear hw6 e0 e1 ef EW BB
                      exact bodyPost_ret (v := .tuple #[.slice none 0 0, .agg #[.int .i64 2, .int .i64 (j : Int)]]) (by simp [results, Try.results10, go_sem, s0, s1]) rfl (TokensE.bad HF.out B6)
                    · have HF : Hid (tokV l = (tokA .top l.length (l.drop l.length)).pre (acc ++ [(2, pieceV l j l.length, j)])) := Lib.hid (by rw [hp.out, HF0.out, if_neg hbig, TR.pre_pre])
                      have ecell : cellsK (2, pieceV l j l.length, j) = [.int .i64 2, .string (baS (pieceV l j l.length)), .int .i64 (j : Int)] := rfl
                      have HE := Lib.hid ecell
                      have hbig' : l.length - j ≤ 255 := by omega
                      clear HWT HF0 HP hm hget hlen hp HC ecell hbig EW BB
                      generalize l.length - j = z at *
                      generalize baS (pieceV l j l.length) = S at *
                      go_wp2_with (at_builtin; refine appK _ (by rfl) _ _ (by rfl) w3.heap.size p q acc (by rfl) (hown.alloc _) (World.heap _).size 1 (2, pieceV l j l.length, j) (by rfl) (by rw [HE.out]; exact three8) (by omega) (by simp; omega) ?_)
                      intro g3 cap w6 hA
                      obtain ⟨hown6, hbel⟩ := hA
                      have hb6 := hbel w3.heap.size w3 (Nat.le_refl _) (hb.alloc hzs _)
                      clear hbel hown hb hv hsl
                      go_wp2
                      exact ⟨⟨_, l.length, some ⟨g3, 0, none⟩, cap, by simp, rfl, by simp; omega, hml, HF, by simpa using hown6, hb6⟩, by simp [intN]; omega⟩
              · have HX := Lib.hid (fun V => wordR_x b V)
                have HF : Hid (tokV l = .bad 1 j) := Lib.hid (by rw [hp.out, bad_at hget.out hbl hs h35 hq (by simpa using hw)]; rfl)
                rw [show wordB b = false by simpa using hw] at HX
                clear hp hget HC HT HP hs h35 hw hbl hq
                generalize b.toNat = u at *
                go_wp2_with fail
                refine (HX.out _).mono ?_
                rintro e w' ⟨rfl, rfl⟩
                clear HX hown hb
                go_wp2_with fail
                refine (syntaxR_x j _).mono ?_
                rintro e w5 ⟨rfl, hb5⟩
                have E5 := EW.next hb5
                have B5 := below_next BB hb5
                have e0 := E5.c0
                have e1 := E5.c1
                have ef := E5.fz
                clear hb5 EW BB
                go_wp2_with fail
                generalize hw6 : (World.setCell _ _ _).setCell _ _ = w6
                obtain ⟨s0, s1, B6⟩ := err_plain E5 B5 (Nat.le_refl _) hw6
                clear hw6 e0 e1 ef E5 B5
                exact bodyPost_ret (v := .tuple #[.slice none 0 0, .agg #[.int .i64 1, .int .i64 (j : Int)]]) (by simp [results, Try.results10, go_sem, s0, s1]) rfl (TokensE.bad HF.out B6)
    · have HF : Hid (tokV l = .ok acc) := Lib.hid (by rw [hp.out, show j = l.length by omega, List.drop_length]; show TR.ok (acc ++ []) = _; rw [List.append_nil])
      obtain rfl : j = l.length := by omega
      have e0 := EW.c0
      have e1 := EW.c1
      have ef := EW.fz
      have hlt3 : w.heap.size < w3.heap.size := E3.lt
      clear hp HC HT HP
      go_wp2_with fail
      generalize hw6 : (wr.setCell _ _).setCell _ _ = w6
      obtain ⟨s0, s1, B6⟩ := err_plain EW BB (Nat.le_refl _) hw6
      have hown6 : w6.ownsRow w3.heap.size 33 3 (.slice p acc.length q) acc.length (acc.flatMap cellsK) := by
        subst hw6
        exact ownsRow_setCell_below (ownsRow_setCell_below hown hlt3 _) hlt3 _
      clear hw6 e0 e1 ef
      exact bodyPost_ret (v := .tuple #[.slice p acc.length q, .agg #[.int .i64 0, .int .i64 0]]) (by simp [results, Try.results10, go_sem, s0, s1]) rfl (TokensE.ok HF.out (tokK_own hown6) haj B6)
set_option maxHeartbeats 4000000 in
set_option maxRecDepth 100000 in
theorem tokensR_none (c : Nat) (w : World) :
    Calls Try.prog 10 #[.slice none 0 c] w fun e w' => TokensE w [] e w' := by
  go_enter Try.func10, Try.ntmps10
  go_upto_region 1 with fail
  generalize hw0 : w.alloc _ = w0
  have B0 : Below w.heap.size w w0 := hw0 ▸ ball (Below.refl _ _)
  have E0 : ErrAt w0 w.heap.size := by subst hw0; exact ⟨by simp [go_sem], by simp [go_sem], fun o => by simp [go_sem], by simp [go_sem]⟩
  clear hw0
  go_wp2_with fail
  refine (longR_no none 0 c _ (by decide)).mono ?_
  rintro e w1 ⟨rfl, hb1⟩
  have B1 := below_next B0 hb1
  have E1 := E0.next hb1
  clear hb1 B0 E0
  go_upto_region 4 with fail
  generalize hw2 : w1.alloc _ = w3
  have B3 : Below w.heap.size w w3 := hw2 ▸ ball B1
  have E3 : ErrAt w3 w.heap.size := hw2 ▸ E1.next (ball (Below.refl _ _))
  clear hw2 B1 E1
  go_wp2_with fail
  go_loopw [6, 7] (fun sv iv wr => sv = .slice none 0 0 ∧ iv = .int .i64 0 ∧ wr = w3) (fun _ _ _ => 0)
  case atStart => exact ⟨rfl, rfl, rfl⟩
  case round =>
    obtain ⟨rfl, rfl, rfl⟩ := hrel
    have e0 := E3.c0
    have e1 := E3.c1
    have ef := E3.fz
    go_wp2_with fail
    generalize hw6 : (World.setCell _ _ _).setCell _ _ = w6
    obtain ⟨s0, s1, B6⟩ := err_plain E3 B3 (Nat.le_refl _) hw6
    clear hw6 e0 e1 ef
    exact bodyPost_ret (v := .tuple #[.slice none 0 0, .agg #[.int .i64 0, .int .i64 0]]) (by simp [results, Try.results10, go_sem, s0, s1]) rfl (TokensE.ok (L := []) rfl (TokK.nil _) (Nat.le_refl _) B6)
theorem tokensR_x (l : Bs) (a : Option Addr) (c : Nat) (w : World) (h : BytesAt w a l) (hc : l.length ≤ c) (hl : l.length ≤ 1000000) :
    Calls Try.prog 10 #[.slice a l.length c] w fun e w' => TokensE w l e w' := by
  cases a with
  | some ad => exact tokensR_some l ad c w h hc hl
  | none =>
    have hn : l = [] := by
      cases l with
      | nil => rfl
      | cons a r => obtain ⟨ad, e, _⟩ := h 0 a rfl; cases e
    subst hn
    exact tokensR_none c w
end Go.Proofs.Ytbbaeipobgomdaa
