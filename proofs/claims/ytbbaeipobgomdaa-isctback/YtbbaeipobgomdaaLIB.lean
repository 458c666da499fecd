/- IsctBack: whatever bytes, whatever numbers, the law answers true. -/
import Derived.Test.YtbbaeipobgomdaaLIT
namespace Go.Proofs.Ytbbaeipobgomdaa
open Go.ChangeShapes Go.WideShapes Go.RowKit Go.Sort
/-- The text of signs that the law makes of any bytes. -/
def upU (c : UInt8) : UInt8 := UInt8.ofNat (32 + c.toNat % 95)
def sV (l : Bs) : Bs := l.map upU
theorem upU_prt (c : UInt8) : prtB (upU c) = true := by
  have : ∀ n, n < 256 → prtB (UInt8.ofNat (32 + n % 95)) = true := by decide +kernel
  exact this c.toNat c.toNat_lt
theorem sV_prt (l : Bs) : ∀ c ∈ sV l, prtB c = true := by
  intro c hc
  obtain ⟨d, _, rfl⟩ := List.mem_map.1 hc
  exact upU_prt d
theorem sV_snoc {l : Bs} {j : Nat} {c : UInt8} (h : l[j]? = some c) : sV (l.take (j + 1)) = sV (l.take j) ++ [upU c] := by
  rw [take_snoc8 h]; simp [sV]
theorem sV_len (l : Bs) : (sV l).length = l.length := by simp [sV]
theorem quote_len (s : Bs) : (quoteV s).length ≤ 2 * s.length + 2 := by
  have := bodyQ_len s
  unfold quoteV; simp; omega
theorem piece_bound {t : Tk} (h : okTk t) : (pieceT t).length ≤ 519 ∧ t.2.1.length ≤ 255 := by
  have hl : t.2.1.length ≤ 255 := by
    rcases h with ⟨_, _, h, _⟩ | ⟨_, h, _⟩ | ⟨_, c, h, _⟩
    · exact h
    · exact h
    · rw [h]; simp
  have := quote_len t.2.1
  refine ⟨?_, hl⟩
  unfold pieceT
  rw [List.length_append]
  split <;> simp only [List.length_cons, List.length_nil] <;> omega
theorem tk_cases {t : Tk} (_ : okTk t) : t.1 = 3 ∨ ¬ ((t.1 : Int) = 3) := by omega
theorem pieces_bound : ∀ (q : List Tk), (∀ t ∈ q, okTk t) → (q.flatMap pieceT).length ≤ 519 * q.length
  | [], _ => by simp
  | t :: q, h => by
    have := pieces_bound q (fun x hx => h x (by simp [hx]))
    have := (piece_bound (h t (by simp))).1
    rw [List.flatMap_cons, List.length_append, List.length_cons]; omega
theorem pieces_snoc {L : List Tk} {j : Nat} {t : Tk} (h : L[j]? = some t) : (L.take (j + 1)).flatMap pieceT = (L.take j).flatMap pieceT ++ pieceT t := by
  rw [List.take_add_one, h, List.flatMap_append]; simp
set_option maxHeartbeats 32000000 in
set_option maxRecDepth 100000 in
theorem iback_walk (la : Option Addr) (l : Bs) (c : Nat) (b : Option Addr) (zs : List Int) (d : Nat) (w : World) (hr : BytesAt w la l) (hi : IntsAt w b zs) (hz : ∀ z ∈ zs, (Lit.int .i64 z).wf = true) :
    Calls Try.prog 6 #[.slice la l.length c, .slice b zs.length d] w fun e w' => e = .returned (.bool true) ∧ Below w.heap.size w w' := by
  have HR := Lib.hid hr
  have HI := Lib.hid hi
  have HZ := Lib.hid hz
  clear hr hi hz
  by_cases hbig : 255 < l.length
  · go_enter Try.func6, Try.ntmps6
    go_wp2_with fail
    refine (awake8_x w).mono ?_
    rintro e w' ⟨rfl, hb⟩
    go_wp2
    go_ret
    exact ⟨rfl, hb⟩
  · have hll : l.length ≤ 255 := by omega
    clear hbig
    have htl := textZ_len zs
    go_enter Try.func6, Try.ntmps6
    go_wp2_with fail
    go_loopw [5, 23] (fun sv iv wr => ∃ j : Nat, sv = .string (baS (sV (l.take j))) ∧ iv = .int .i64 (j : Int) ∧ j ≤ l.length ∧ Below w.heap.size w wr) (fun _ iv _ => l.length + 1 - intN iv)
    case atStart => exact ⟨0, rfl, rfl, Nat.zero_le _, Below.refl _ _⟩
    case round =>
      obtain ⟨j, rfl, rfl, hjl, hb⟩ := hrel
      by_cases hlt : j < l.length
      · obtain ⟨ad, ha⟩ : ∃ ad, la = some ad := by
          obtain ⟨ad, e, _⟩ := HR.out j (l[j]'hlt) (List.getElem?_eq_getElem hlt)
          exact ⟨ad, e⟩
        subst ha
        have hcell := bytesAt_cell (HR.out.below hb) j hlt
        have hs := sV_snoc (List.getElem?_eq_getElem hlt)
        have hln : (sV (l.take j)).length ≤ 255 := by rw [sV_len, List.length_take]; omega
        have hadd := fun V => addS (sV (l.take j)) [upU (l[j]'hlt)] (by omega) (by simp) V
        rw [← hs] at hadd
        have hu := (l[j]'hlt).toNat_lt
        have hbe : ∀ V : World, (convert 29 9 (.slice (some ⟨V.heap.size, 0, none⟩) 1 1)).run Try.prog (V.alloc (.cells #[.int .u8 (32 + ((l[j]'hlt).toNat : Int) % 95)] 5)) = .ok (.string (baS [upU (l[j]'hlt)])) (V.alloc (.cells #[.int .u8 (32 + ((l[j]'hlt).toNat : Int) % 95)] 5)) := fun V => by
          have := byteE V (32 + (l[j]'hlt).toNat % 95) (by omega)
          rwa [show ((32 + (l[j]'hlt).toNat % 95 : Nat) : Int) = 32 + ((l[j]'hlt).toNat : Int) % 95 by omega] at this
        clear hs
        generalize baS [upU (l[j]'hlt)] = S1 at *
        generalize (l[j]'hlt).toNat = u at *
        generalize baS (sV (l.take j)) = S0 at *
        go_wp2
        exact ⟨⟨j + 1, rfl, by simp, by omega, ball hb⟩, by simp [intN]; omega⟩
      · obtain rfl : j = l.length := by omega
        rw [List.take_length]
        have hsl := sV_len l
        have hql := quote_len (sV l)
        have HQ := Lib.hid (fun V => quote_x (sV l) V (by omega))
        have a1 : ∀ V, (Op.stringOp .add ⟨#[97, 32]⟩ (baS (quoteV (sV l)))).run Try.prog V = .ok (.string (baS ([97, 32] ++ quoteV (sV l)))) V := fun V => addS [97, 32] (quoteV (sV l)) (by decide) (by omega) V
        have a2 : ∀ V, (Op.stringOp .add (baS ([97, 32] ++ quoteV (sV l))) ⟨#[98]⟩).run Try.prog V = .ok (.string (baS ([97, 32] ++ quoteV (sV l) ++ [98]))) V := fun V => addS ([97, 32] ++ quoteV (sV l)) [98] (by simp; omega) (by decide) V
        have HT : Hid (∀ V, Calls Try.prog 7 #[.slice (some ⟨V.heap.size, 0, none⟩) (baS ([97, 32] ++ quoteV (sV l) ++ [98])).size (grownCap V (baS ([97, 32] ++ quoteV (sV l) ++ [98])).size 0 5)] (Lib.bytesWorld V 5 (baS ([97, 32] ++ quoteV (sV l) ++ [98]))) fun e w' => (∃ p c, e = .returned (.tuple #[.slice p 3 c, .agg #[.int .i64 0, .int .i64 0]]) ∧ TokK w' p [(2, [97], 0), (3, sV l, 2), (2, [98], 2 + (quoteV (sV l)).length)]) ∧ Below V.heap.size V w') := fun V => (tokens_s _ V (by simp; omega)).mono fun e w' h => h.yes (quote_mid (sV_prt l) (by omega))
        have kc : ∀ (V : World) (s : ByteArray), (convert 9 29 (.string s)).run Try.prog V = .ok (.slice (some ⟨V.heap.size, 0, none⟩) s.size (grownCap V s.size 0 5)) (Lib.bytesWorld V 5 s) := fun V s =>
          Lib.run_convert_string_bytes V 9 29 5 s Try.underlying9 Try.underlying29 Try.underlying5
        clear hsl hql
        generalize baS ([97, 32] ++ quoteV (sV l) ++ [98]) = S3 at *
        generalize baS ([97, 32] ++ quoteV (sV l)) = S2 at *
        generalize 2 + (quoteV (sV l)).length = z3 at *
        generalize baS (quoteV (sV l)) = SQ at *
        generalize sV l = s at *
        go_wp2_with fail
        refine (HQ.out _).mono ?_
        rintro e w1 ⟨rfl, hb1⟩
        have B1 := below_next hb hb1
        clear HQ hb hb1
        go_wp2_with fail
        refine (HT.out w1).mono ?_
        rintro e w2 ⟨⟨p, q, rfl, ht⟩, hb2⟩
        have B2 := below_next B1 hb2
        clear HT kc a1 a2 B1 hb2
        go_upto_region 10 with fail
        generalize hw3 : w2.alloc _ = w3
        have B3 : Below w.heap.size w w3 := hw3 ▸ ball B2
        have T3 := ht.below (hw3 ▸ ball (Below.refl _ _) : Below w2.heap.size w2 w3)
        have E3 : ErrC w3 w2.heap.size 0 0 := by subst hw3; exact ⟨by simp [go_sem], by simp [go_sem], by simp [go_sem]⟩
        clear hw3 ht B2
        generalize w2.heap.size = X at *
        have e0 := E3.c0
        have e1 := E3.c1
        obtain ⟨g, rfl, _, k0, k1, k2⟩ := T3 1 _ rfl
        obtain ⟨_, eg, _, _, k3, _⟩ := T3 2 _ rfl
        cases eg
        have m0 : w3.cell? ⟨g, 3, none⟩ = some (.int .i64 3) := k0
        have m1 : w3.cell? ⟨g, 4, none⟩ = some (.string (baS s)) := k1
        have m2 : w3.cell? ⟨g, 5, none⟩ = some (.int .i64 2) := k2
        have m3 : w3.cell? ⟨g, 7, none⟩ = some (.string ⟨#[98]⟩) := k3
        clear T3 k0 k1 k2 k3 E3
        generalize baS s = S at *
        go_wp2_with fail
        have HI3 := Lib.hid (HI.out.below B3)
        refine (textZ_x zs b d w3 HI3.out HZ.out).mono ?_
        rintro e w4 ⟨hb4, p4, q4, rfl, hown4⟩
        have B4 := below_next B3 hb4
        have KB4 := Lib.hid (bytes_own hown4)
        have cap4 := own_cap hown4
        clear hown4 hb4 m0 m1 m2 m3 e0 e1 HI3 B3
        go_wp2_with fail
        refine (tokens_x (textZ zs) p4 q4 w4 KB4.out cap4 (by omega)).mono ?_
        intro e w5 h5
        cases htk : tokV (textZ zs) with
        | bad k x =>
          obtain ⟨he, hb5⟩ := h5.no htk
          subst he
          obtain ⟨hxn, hk⟩ := tokV_bad htk
          have B5 := below_next B4 hb5
          clear h5 htk hb5 B4 KB4 cap4
          go_upto_region 13 with fail
          generalize hw6 : w5.alloc _ = w6
          have B6 : Below w.heap.size w w6 := hw6 ▸ ball B5
          have E6 : ErrC w6 w5.heap.size k x := by subst hw6; exact ⟨by simp [go_sem], by simp [go_sem], by simp [go_sem]⟩
          clear hw6 B5
          generalize w5.heap.size = E at *
          have e0 := E6.c0
          have hk0 : ¬ ((k : Int) = 0) := by omega
          have HE : Hid (∀ V, Below w6.heap.size w6 V → V.cell? ⟨E, 1, none⟩ = some (.int .i64 (x : Int))) := Lib.hid (fun V hV => (E6.next hV).c1)
          have HTX : Hid (∀ V, Below w6.heap.size w6 V → Calls Try.prog 9 #[.slice b zs.length d] V fun e w' => (∃ p q, e = .returned (.slice p (textZ zs).length q)) ∧ Below V.heap.size V w') := Lib.hid (fun V hV => (textZ_x zs b d V (HI.out.below (below_next B6 hV)) HZ.out).mono fun e w' ⟨h1, p, q, h2, _⟩ => ⟨⟨p, q, h2⟩, h1⟩)
          clear E6 hk HI HZ HR htl
          generalize (textZ zs).length = n at *
          have hxn : (x : Int) ≤ (n : Int) := by omega
          go_upto_region 14 with fail
          refine region_go [90, 91, 92, 93, 94, 95, 96, 97, 98, 99, 100, 101, 102, 103, 104, 105, 106, 107, 108, 4]
            [.eqv (.slice none 0 0), .eqv (.int .i64 0), .eqv (.bool true), .eqv (.bool true), .eqv (.pointer (some ⟨E, 1, none⟩)), .eqv (.int .i64 (x : Int)), .eqv (.bool true), .eqv (.bool true), .eqv (.bool true), .eqv (.pointer (some ⟨E, 1, none⟩)), .eqv (.int .i64 (x : Int)), .eqv (.slice b zs.length d), ⟨fun v _ => ∃ p q, v = .slice p n q, fun _ _ _ h _ => h⟩, .eqv (.int .i64 (n : Int)), .eqv (.bool true), .eqv (.bool true), .eqv (.bool true), .eqv (.bool true), .eqv (.bool true), .eqv (.bool true)]
            (by kernel_rfl) (by kernel_rfl) rfl (by decide) (of_decide_eq_true (by kernel_rfl)) ?_ ?_
          · refine ⟨?_, ?_, ?_, ?_, ?_, ?_, ?_, ?_, ?_, ?_, ?_, ?_, ?_, ?_, ?_, ?_, ?_, ?_, ?_, ?_, True.intro⟩
            · refine stepG_val rfl fun a w hF hB hD => ⟨rg_free rfl _, ?_⟩
              have h10 : a.eval (.tmp 10) = .slice none 0 0 := (hF 10 (by decide)).trans rfl
              unfold execOp
              simp only [h10]
              simp [go_sem]
            · refine stepG_val rfl fun a w hF hB hD => ⟨rg_free rfl _, ?_⟩
              have h90 : a.eval (.tmp 90) = .slice none 0 0 := hD 0 rfl
              unfold execOp
              simp [go_sem, rg_tmp h90, Builtin.len_]
            · refine stepG_val rfl fun a w hF hB hD => ⟨rg_free rfl _, ?_⟩
              have h91 : a.eval (.tmp 91) = .int .i64 0 := hD 1 rfl
              unfold execOp
              simp only [h91]
              simp [go_sem]
            · refine stepG_val rfl fun a w hF hB hD => ⟨rg_free rfl _, ?_⟩
              have h92 : a.eval (.tmp 92) = .bool true := hD 2 rfl
              unfold execOp
              simp only [h92]
              simp [go_sem]
            · refine stepG_val rfl fun a w hF hB hD => ⟨rg_on (d := 93) rfl rfl (hD 3 rfl), ?_⟩
              have h11 : a.eval (.tmp 11) = .pointer (some ⟨E, 0, none⟩) := (hF 11 (by decide)).trans rfl
              unfold execOp
              simp only [h11]
              simp [go_sem]
            · refine stepG_val rfl fun a w hF hB hD => ⟨rg_on (d := 93) rfl rfl (hD 3 rfl), ?_⟩
              have h94 : a.eval (.tmp 94) = .pointer (some ⟨E, 1, none⟩) := hD 4 rfl
              have c0 := HE.out w hB
              unfold execOp
              simp only [h94]
              simp [go_sem, c0]
            · refine stepG_val rfl fun a w hF hB hD => ⟨rg_on (d := 93) rfl rfl (hD 3 rfl), ?_⟩
              have h95 : a.eval (.tmp 95) = .int .i64 (x : Int) := hD 5 rfl
              unfold execOp
              simp only [h95]
              simp [go_sem]
            · refine stepG_val rfl fun a w hF hB hD => ⟨rg_free rfl _, ?_⟩
              have h93 : a.eval (.tmp 93) = .bool true := hD 3 rfl
              have h96 : a.eval (.tmp 96) = .bool true := hD 6 rfl
              unfold execOp
              simp only [h93, h96]
              simp [go_sem]
            · refine stepG_val rfl fun a w hF hB hD => ⟨rg_free rfl _, ?_⟩
              have h97 : a.eval (.tmp 97) = .bool true := hD 7 rfl
              unfold execOp
              simp only [h97]
              simp [go_sem]
            · refine stepG_val rfl fun a w hF hB hD => ⟨rg_on (d := 98) rfl rfl (hD 8 rfl), ?_⟩
              have h11 : a.eval (.tmp 11) = .pointer (some ⟨E, 0, none⟩) := (hF 11 (by decide)).trans rfl
              unfold execOp
              simp only [h11]
              simp [go_sem]
            · refine stepG_val rfl fun a w hF hB hD => ⟨rg_on (d := 98) rfl rfl (hD 8 rfl), ?_⟩
              have h99 : a.eval (.tmp 99) = .pointer (some ⟨E, 1, none⟩) := hD 9 rfl
              have c0 := HE.out w hB
              unfold execOp
              simp only [h99]
              simp [go_sem, c0]
            · refine stepG_val rfl fun a w hF hB hD => ⟨rg_on (d := 98) rfl rfl (hD 8 rfl), ?_⟩
              have h1 : a.eval (.tmp 1) = .slice b zs.length d := (hF 1 (by decide)).trans rfl
              unfold execOp
              simp only [h1]
              simp [go_sem]
            · refine stepG_call fun a w hF hB hD => ⟨rg_on (d := 98) rfl rfl (hD 8 rfl), 9, ?_⟩
              have h101 : a.eval (.tmp 101) = .slice b zs.length d := hD 11 rfl
              refine ⟨#[.slice b zs.length d], ?_, ?_⟩
              · unfold execOp
                simp [go_sem, rg_tmp h101]
              · exact (HTX.out w hB).mono fun e w' ⟨⟨p, q, h⟩, k⟩ => ⟨_, h, ⟨p, q, rfl⟩, k⟩
            · refine stepG_val rfl fun a w hF hB hD => ⟨rg_on (d := 98) rfl rfl (hD 8 rfl), ?_⟩
              obtain ⟨p, q, h102⟩ : ∃ p q, a.eval (.tmp 102) = .slice p n q := hD 12 rfl
              unfold execOp
              simp [go_sem, rg_tmp h102, Builtin.len_]
            · refine stepG_val rfl fun a w hF hB hD => ⟨rg_on (d := 98) rfl rfl (hD 8 rfl), ?_⟩
              have h100 : a.eval (.tmp 100) = .int .i64 (x : Int) := hD 10 rfl
              have h103 : a.eval (.tmp 103) = .int .i64 (n : Int) := hD 13 rfl
              unfold execOp
              simp only [h100, h103]
              simp [go_sem, hxn]
            · refine stepG_val rfl fun a w hF hB hD => ⟨rg_free rfl _, ?_⟩
              have h98 : a.eval (.tmp 98) = .bool true := hD 8 rfl
              have h104 : a.eval (.tmp 104) = .bool true := hD 14 rfl
              unfold execOp
              simp only [h98, h104]
              simp [go_sem]
            · refine stepG_val rfl fun a w hF hB hD => ⟨rg_free rfl _, ?_⟩
              have h105 : a.eval (.tmp 105) = .bool true := hD 15 rfl
              unfold execOp
              simp only [h105]
              simp [go_sem]
            · refine stepG_call fun a w hF hB hD => ⟨rg_on (d := 106) rfl rfl (hD 16 rfl), 8, #[], ?_, (awake8_x w).mono fun e w' ⟨h, k⟩ => ⟨_, h, rfl, k⟩⟩
              unfold execOp
              simp [go_sem]
            · refine stepG_val rfl fun a w hF hB hD => ⟨rg_free rfl _, ?_⟩
              have h106 : a.eval (.tmp 106) = .bool true := hD 16 rfl
              have h107 : a.eval (.tmp 107) = .bool true := hD 17 rfl
              unfold execOp
              simp only [h106, h107]
              simp [go_sem]
            · refine stepG_val rfl fun a w hF hB hD => ⟨rg_free rfl _, ?_⟩
              have h108 : a.eval (.tmp 108) = .bool true := hD 18 rfl
              unfold execOp
              simp only [h108]
              simp [go_sem]
          · rintro ⟨T, Df⟩ w7 hd _ _ hsp hb7
            obtain rfl : Df = [] := hd
            have h4 : T.getD 4 undef = .bool true := hsp 19 (by decide)
            clear hsp
            go_wp2
            go_ret
            exact ⟨by rw [h4], below_next B6 hb7⟩
        | ok L =>
          have hok := tokV_ok htk
          obtain ⟨L2, hl2a, hl2, hl2b⟩ := back_pieces L 0 hok
          have HOK := Lib.hid hok
          have HBK : Hid (tokV (L.flatMap pieceT) = .ok L2) := Lib.hid hl2a
          have HLL := Lib.hid hl2
          have HB2 := Lib.hid hl2b
          obtain ⟨p5, q5, he, ht5, hln, hb5⟩ := h5.out (L := L) (K := 0) (A := 0) (by rw [htk]; rfl)
          subst he
          have B5 := below_next B4 hb5
          have hLn : L.length ≤ 1140 := by omega
          clear h5 htk hb5 B4 KB4 cap4 hok hl2a hl2 hl2b hln
          go_upto_region 13 with fail
          generalize hw6 : w5.alloc _ = w6
          have B6 : Below w.heap.size w w6 := hw6 ▸ ball B5
          have E6 : ErrC w6 w5.heap.size 0 0 := by subst hw6; exact ⟨by simp [go_sem], by simp [go_sem], by simp [go_sem]⟩
          have T6 : Hid (TokK w6 p5 L) := Lib.hid (hw6 ▸ ht5.below (ball (Below.refl _ _)))
          clear hw6 B5 ht5
          generalize w5.heap.size = E at *
          have e0 := E6.c0
          clear E6 HI HZ HR htl
          go_wp2_with fail
          go_loopw [12, 111] (fun sv iv wr => ∃ (acc : Bs) (j : Nat) (p : Option Addr) (q : Nat), sv = .slice p acc.length q ∧ iv = .int .i64 (j : Int) ∧ acc.length ≤ 519 * j ∧ j ≤ L.length ∧ Hid (acc = (L.take j).flatMap pieceT) ∧ wr.ownsRow w6.heap.size 5 1 (.slice p acc.length q) acc.length (cellsB acc) ∧ Below w6.heap.size w6 wr) (fun _ iv _ => L.length + 1 - intN iv)
          case atStart => exact ⟨[], 0, none, 0, rfl, rfl, by simp, Nat.zero_le _, Lib.hid rfl, World.ownsRow_nil _ _ _ _, Below.refl _ _⟩
          case round =>
            obtain ⟨acc, j, p, q, rfl, rfl, haj, hjl, hacc, hown, hb⟩ := hrel
            have hzs := hb.size
            by_cases hlt : j < L.length
            · have hx : L[j]? = some (L[j]'hlt) := List.getElem?_eq_getElem hlt
              have hot := HOK.out _ (List.getElem_mem hlt)
              have HS := Lib.hid (pieces_snoc hx)
              obtain ⟨hpb, htb⟩ := piece_bound hot
              have hkc := tk_cases hot
              have HX := Lib.hid hx
              clear hx hot
              generalize L[j]'hlt = t at *
              obtain ⟨kd, tx, at'⟩ := t
              have HX : Hid (L[j]? = some (kd, tx, at')) := HX
              have htb : tx.length ≤ 255 := htb
              have hkc : kd = 3 ∨ ¬ ((kd : Int) = 3) := hkc
              have hpl : (pieceT (kd, tx, at')).length ≤ 519 := hpb
              have hqb := quote_len tx
              clear hpb
              have HO := Lib.hid hown
              clear hown
              go_wp2_with (at_builtin; refine appS _ (by rfl) _ _ (by rfl) w6.heap.size p q acc [32, 9, 35, 32, 195, 169, 10] (by rfl) HO.out (by rfl) (by omega) (by decide) hzs ?_)
              intro p' q' w7 hA
              obtain ⟨hown7, hbel⟩ := hA
              have B7 := hbel _ _ (Nat.le_refl _) hb
              have HO7 := Lib.hid hown7
              have HL : Hid (List.length (acc ++ [32, 9, 35, 32, 195, 169, 10]) = acc.length + 7) := Lib.hid (by simp)
              have hzs7 := B7.size
              clear hbel hb HO hown7 hzs
              obtain ⟨acc1, hacc1⟩ : ∃ x : Bs, x = acc ++ [32, 9, 35, 32, 195, 169, 10] := ⟨_, rfl⟩
              rw [← hacc1] at HO7 HL
              have HAC := Lib.hid hacc1
              clear hacc1
              obtain ⟨g, eg, _, c0, c1, _⟩ := (T6.out.below B7) j _ HX.out
              subst eg
              rcases hkc with rfl | hk
              · have d0 : w7.cell? ⟨g, j * 3, none⟩ = some (.int .i64 3) := c0
                have d1 : w7.cell? ⟨g, j * 3 + 1, none⟩ = some (.string (baS tx)) := c1
                have HF : Hid (acc1 ++ quoteV tx = (L.take (j + 1)).flatMap pieceT) := Lib.hid (by rw [HAC.out, HS.out, hacc.out]; unfold pieceT; rw [if_pos rfl, List.append_assoc])
                have hlen2 : (acc1 ++ quoteV tx).length ≤ 519 * (j + 1) := by
                  have e : (pieceT (3, tx, at')).length = 7 + (quoteV tx).length := by unfold pieceT; rw [if_pos rfl, List.length_append]; rfl
                  rw [List.length_append, HL.out]; omega
                have HQ := Lib.hid (fun V => quote_x tx V (by omega))
                have HLQ : Hid ((quoteV tx).length ≤ 1000000) := Lib.hid (by omega)
                have HL2 := Lib.hid hlen2
                have HLA : Hid (acc.length + 7 ≤ 1000000) := Lib.hid (by omega)
                clear c0 c1 HS HAC hacc hpl hqb hlen2
                go_wp2_with fail
                refine (HQ.out _).mono ?_
                rintro e w8 ⟨rfl, hb8⟩
                have HO8 := Lib.hid (own_next HO7.out hb8)
                have B8 := below_next B7 hb8
                have z8 := B8.size
                clear HO7 hb8 B7 hzs7 d0 d1 HQ
                go_wp2_with (at_builtin; refine appS _ (by rfl) _ _ (by rfl) w6.heap.size p' q' (acc1) (quoteV tx) (by rw [HL.out]; rfl) HO8.out (by rfl) (by rw [HL.out]; exact HLA.out) HLQ.out z8 ?_)
                intro p'' q'' w9 hA
                obtain ⟨hown9, hbel⟩ := hA
                have B9 := hbel _ _ (Nat.le_refl _) B8
                have HO9 := Lib.hid hown9
                clear hbel HO8 B8 hown9
                go_wp2
                exact ⟨⟨acc1 ++ quoteV tx, j + 1, p'', q'', by rw [List.length_append], by simp, HL2.out, by omega, HF, HO9.out, B9⟩, by simp [intN]; omega⟩
              · have d0 : w7.cell? ⟨g, j * 3, none⟩ = some (.int .i64 (kd : Int)) := c0
                have d1 : w7.cell? ⟨g, j * 3 + 1, none⟩ = some (.string (baS tx)) := c1
                have hkn : ¬ kd = 3 := fun e => hk (by omega)
                have HF : Hid (acc1 ++ tx = (L.take (j + 1)).flatMap pieceT) := Lib.hid (by rw [HAC.out, HS.out, hacc.out]; unfold pieceT; rw [if_neg hkn, List.append_assoc])
                have hlen2 : (acc1 ++ tx).length ≤ 519 * (j + 1) := by
                  rw [List.length_append, HL.out]; omega
                have HL2 := Lib.hid hlen2
                have HLA : Hid (acc.length + 7 ≤ 1000000) := Lib.hid (by omega)
                have HLT : Hid (tx.length ≤ 1000000) := Lib.hid (by omega)
                clear c0 c1 HS HAC hacc hpl hqb hlen2 hkn
                go_wp2_with (at_builtin; refine appS _ (by rfl) _ _ (by rfl) w6.heap.size p' q' (acc1) tx (by rw [HL.out]; rfl) HO7.out (by rfl) (by rw [HL.out]; exact HLA.out) HLT.out hzs7 ?_)
                intro p'' q'' w9 hA
                obtain ⟨hown9, hbel⟩ := hA
                have B9 := hbel _ _ (Nat.le_refl _) B7
                have HO9 := Lib.hid hown9
                clear hbel HO7 B7 hown9 d0 d1
                go_wp2
                exact ⟨⟨acc1 ++ tx, j + 1, p'', q'', by rw [List.length_append], by simp, HL2.out, by omega, HF, HO9.out, B9⟩, by simp [intN]; omega⟩
            · obtain rfl : j = L.length := by omega
              have HF : Hid (acc = L.flatMap pieceT) := Lib.hid (by rw [hacc.out, List.take_length])
              have KB := Lib.hid (bytes_own hown)
              have capb := own_cap hown
              have BW : Below w.heap.size w wr := below_next B6 hb
              have TW : Hid (TokK wr p5 L) := Lib.hid (T6.out.below hb)
              clear hown hacc hb hzs T6 B6 HOK e0
              go_wp2_with fail
              refine (tokens_x acc p q wr KB.out capb (by omega)).mono ?_
              intro e w8 h8
              obtain ⟨⟨pz, qz, he, htz⟩, hb8⟩ := h8.yes (L := L2) (by rw [HF.out]; exact HBK.out)
              rw [HLL.out] at he
              subst he
              have B8 := below_next BW hb8
              have T8 : Hid (TokK w8 p5 L) := Lib.hid (TW.out.below hb8)
              clear h8 hb8 BW TW KB capb HF HBK haj
              go_upto_region 25 with fail
              generalize hw9 : w8.alloc _ = w9
              have B9 : Below w.heap.size w w9 := hw9 ▸ ball B8
              have E9 : ErrC w9 w8.heap.size 0 0 := by subst hw9; exact ⟨by simp [go_sem], by simp [go_sem], by simp [go_sem]⟩
              have T9 : Hid (TokK w9 p5 L) := Lib.hid (hw9 ▸ T8.out.below (ball (Below.refl _ _)))
              have Z9 : Hid (TokK w9 pz L2) := Lib.hid (hw9 ▸ htz.below (ball (Below.refl _ _)))
              clear hw9 B8 T8 htz
              generalize w8.heap.size = E2 at *
              have e0 := E9.c0
              clear E9
              go_wp2_with fail
              go_loopw [155] (fun iv wk => ∃ j : Nat, iv = .int .i64 (j : Int) ∧ j ≤ L.length ∧ Below w9.heap.size w9 wk) (fun iv _ => L.length + 1 - intN iv)
              case atStart => exact ⟨0, rfl, Nat.zero_le _, Below.refl _ _⟩
              case round =>
                obtain ⟨i, rfl, hil, hbk⟩ := hrel
                by_cases hlt3 : i < L.length
                · have hx : L[i]? = some (L[i]'hlt3) := List.getElem?_eq_getElem hlt3
                  obtain ⟨a3, hx2⟩ := HB2.out i _ hx
                  obtain ⟨g, eg, hg, c0, c1, c2⟩ := (T9.out.below hbk) i _ hx
                  subst eg
                  obtain ⟨g2, eg2, hg2, d0, d1, d2⟩ := (Z9.out.below hbk) i _ hx2
                  subst eg2
                  clear hx hx2 c2 d2 hg hg2
                  generalize L[i]'hlt3 = t at *
                  obtain ⟨KD, tx, ax⟩ := t
                  dsimp only at c0 c1 d0 d1
                  generalize baS tx = ST at *
                  go_wp2
                  go_quiet (fail)
                  go_wp2
                  go_roundw
                  case rel => exact ⟨i + 1, by simp, by omega, bdrew hbk _⟩
                  case measure => simp [intN]; omega
                · obtain rfl : i = L.length := by omega
                  have BK : Below w.heap.size w wr := below_next B9 hbk
                  clear hbk B9 T9 Z9 HB2 HLL
                  go_wp2_with fail
                  refine (awake8_x wr).mono ?_
                  rintro e w10 ⟨rfl, hb10⟩
                  have B10 := below_next BK hb10
                  go_wp2
                  go_ret
                  exact ⟨rfl, B10⟩
end Go.Proofs.Ytbbaeipobgomdaa
