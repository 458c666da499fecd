/- ScanParts: for any bytes the law answers true. -/
import Derived.Test.YtlhllhdjcbaipaaSh
import Derived.Test.YtlhllhdjcbaipaaSi
namespace Go.Proofs.Ytlhllhdjcbaipaa
open Go.ChangeShapes Go.WideShapes Go.RowKit Go.Sort
theorem lines_off (l : Bs) (n k : Nat) (h : l.length ≤ k) : linesG [] n (l.drop k) = [] := by
  rw [List.drop_eq_nil_of_le h, linesG, if_pos rfl]
set_option maxHeartbeats 8000000 in
set_option maxRecDepth 100000 in
theorem sparts_some (ad : Addr) (l : Bs) (c : Nat) (w : World) (h : BytesAt w (some ad) l) (hc : l.length ≤ c) (hl : l.length ≤ 500) :
    Calls Try.prog 6 #[.slice (some ad) l.length c] w fun e w' => e = .returned (.bool true) ∧ Below w.heap.size w w' := by
  have HH := Lib.hid h
  have HW : Hid (∀ (V : World) (k : Nat), BytesAt V (some ad) l → k ≤ l.length → Calls Try.prog 7 #[.slice (some ad) l.length c, .int .i64 (k : Int)] V fun e w' => e = .returned (.tuple #[.int .i64 (1 + (lfs (l.take k) : Int)), .int .i64 (1 + (since (l.take k) : Int))]) ∧ Below V.heap.size V w') := fun V k hV hk => by
    have := where_x l (some ad) c k V hV hc (by omega)
    rwa [heldAt_nat l k hk] at this
  have HL : Hid (∀ V : World, BytesAt V (some ad) l → Calls Try.prog 9 #[.slice (some ad) l.length c] V fun e w' => LinesE V (linesV l) e w') := fun V hV => lines_x l (some ad) c V hV hc (by omega)
  have HP : Hid (∀ V f k, BytesAt V (some ad) l → k ≤ l.length → (convert 26 9 (.slice (adv (some ad) c f) (k - f) (c - f))).run Try.prog V = .ok (.string (baS (pieceV l f k))) V) := fun V f k hV hk => piece_at hV hc f k hk
  have HN : Hid ((linesV l).length ≤ 500) := Nat.le_trans (linesV_len l) hl
  have HI : Hid (linesV l = [] ++ linesG [] 0 (l.drop 0)) := rfl
  clear h
  generalize linesV l = L at *
  go_enter Try.func6, Try.ntmps6
  go_wp2_with fail
  refine (HL.out w HH.out).mono ?_
  rintro e w1 ⟨hb1, p, d, rfl, ht⟩
  have HT := Lib.hid ht
  clear ht HL
  go_wp2_with fail
  go_loopw [4, 19] (fun av iv wr => ∃ (t : Nat) (acc : List (Bs × Nat)), av = .int .i64 (t : Int) ∧ iv = .int .i64 (acc.length : Int) ∧ Hid (L = acc ++ linesG [] t (l.drop t)) ∧ Hid (t < l.length → lfs (l.take t) = acc.length ∧ since (l.take t) = 0) ∧ t ≤ l.length + 1 ∧ Below w1.heap.size w1 wr) (fun av iv _ => L.length + 1 - intN iv)
  case atStart => exact ⟨0, [], rfl, rfl, HI, (fun _ => ⟨by simp [lfs], by simp [since]⟩ : _ → _), Nat.zero_le _, Below.refl _ _⟩
  case round =>
    obtain ⟨t, acc, rfl, rfl, hacc, hwh, htl, hb⟩ := hrel
    by_cases hlt : t < l.length
    · obtain ⟨s1, s2, s3⟩ := lines_step hlt
      obtain ⟨h1, h2, h3, h4⟩ := line_parts hlt
      obtain ⟨q1, q2⟩ := hwh.out hlt
      obtain ⟨f1, f2, f3⟩ := line_where hlt q2
      rw [s1] at hacc
      generalize lineT l t = T at *
      generalize lineN l t = N at *
      obtain ⟨E, hE⟩ : ∃ E, E = t + T.length := ⟨_, rfl⟩
      rw [← hE] at h1 h2 h4 f1 f2
      have hL : L = (acc ++ [(T, t)]) ++ linesG [] N (l.drop N) := by rw [hacc.out]; simp
      have hx : L[acc.length]? = some (T, t) := by rw [hL]; simp
      have hlen : acc.length + 1 ≤ L.length := by rw [hL]; simp
      have hN := HN.out
      obtain ⟨g, ep, hg, _, k1, k2⟩ := HT.out acc.length T t hx
      subst ep
      have HB := Lib.hid (HH.out.below hb1)
      have C1 := fun V (hV : Below w1.heap.size w1 V) => (olds hV g (acc.length * 3 + 1) hg).trans k1
      have C2 := fun V (hV : Below w1.heap.size w1 V) => (olds hV g (acc.length * 3 + 2) hg).trans k2
      have HC1 := Lib.hid C1
      have HC2 := Lib.hid C2
      have W1 := HW.out wr t (HB.out.below hb) (by omega)
      rw [q1, q2, show (1 + ((0 : Nat) : Int)) = 1 from rfl] at W1
      have W2 : Hid (∀ V, BytesAt V (some ad) l → Calls Try.prog 7 #[.slice (some ad) l.length c, .int .i64 (E : Int)] V fun e w' => e = .returned (.tuple #[.int .i64 (1 + (acc.length : Int)), .int .i64 (1 + (T.length : Int))]) ∧ Below V.heap.size V w') := fun V hV => by
        have := HW.out V E hV h1
        rwa [f1, f2, q1] at this
      replace W1 := Lib.hid W1
      have HS : Hid (∀ V, BytesAt V (some ad) l → (convert 26 9 (.slice (adv (some ad) c t) (E - t) (c - t))).run Try.prog V = .ok (.string (baS T)) V) := fun V hV => by
        have := HP.out V t E hV h1
        rwa [h2] at this
      have hsl := fun V => sl_lh (some ad) l.length c t E (by omega) (by omega) V
      have hwE : IntKind.i64.wrap ((t : Int) + (T.length : Int)) = (E : Int) := by rw [IntKind.wrap_i64]; omega
      have hwm : IntKind.i64.wrap ((T.length : Int) + 1) = 1 + (T.length : Int) := by rw [IntKind.wrap_i64]; omega
      have hwi : IntKind.i64.wrap ((acc.length : Int) + 1) = 1 + (acc.length : Int) := by rw [IntKind.wrap_i64]; omega
      have hwe : IntKind.i64.wrap ((E : Int) + 1) = (E : Int) + 1 := by rw [IntKind.wrap_i64]; omega
      have hsz : (baS T).size = T.length := baS_size T
      have HF : Hid (L = (acc ++ [(T, t)]) ++ linesG [] N (l.drop N)) := hL
      have HG : Hid (N < l.length → lfs (l.take N) = (acc ++ [(T, t)]).length ∧ since (l.take N) = 0) := fun hn => by
        rw [(f3 hn).1, q1]; simp [(f3 hn).2]
      have hla : (acc ++ [(T, t)]).length = acc.length + 1 := by simp
      generalize hka : acc ++ [(T, t)] = acc' at *
      generalize hk : acc.length = k at *
      generalize hm : T.length = m at *
      generalize baS T = B at *
      have HE := Lib.hid hE
      have hd : decide ((l.length : Int) < (E : Int)) = false := decide_eq_false (by omega)
      have hte : t ≤ E := by omega
      clear hacc hwh s1 f1 f2 f3 q1 q2 hx hL k1 k2 C1 C2 HW HP HI h2 h3 hka hk hm hE
      have d2 := HC2.out wr hb
      go_wp2_with fail
      refine W1.out.mono ?_
      rintro e w2 ⟨rfl, hb2⟩
      have B2 := below_next hb hb2
      have e1 := HC1.out w2 B2
      have e2 := HC2.out w2 B2
      clear d2 hb hb2 W1
      go_wp2
      go_quiet (fail)
      have B3 := fun n => bdrew B2 n
      clear e1 e2 B2
      generalize hw3 : w2.drewN _ = w3
      have B2 : Below w1.heap.size w1 w3 := hw3 ▸ B3 _
      clear hw3 B3
      have e1 := HC1.out w3 B2
      have e2 := HC2.out w3 B2
      have hv := fun n => HS.out (w3.drewN n) (HB.out.below (bdrew B2 n))
      go_wp2
      go_quiet (fail)
      have B3 := fun n => bdrew B2 n
      clear e1 e2 hv B2
      generalize hw4 : w3.drewN _ = w4
      have B2 : Below w1.heap.size w1 w4 := hw4 ▸ B3 _
      clear hw4 B3
      have W3 := Lib.hid (W2.out w4 (HB.out.below B2))
      clear W2
      go_wp2_with fail
      refine W3.out.mono ?_
      rintro e w5 ⟨rfl, hb5⟩
      have B5 := below_next B2 hb5
      have e1 := HC1.out w5 B5
      clear W3 hb5 B2 HC1 HC2 HS hsl
      rcases h4 with ⟨hA, hB⟩ | ⟨hA, hB, hC⟩ | ⟨hA, hB⟩
      · subst hA
        go_wp2
        refine ⟨⟨l.length + 1, acc', by simp, by simp [hla]; omega, ?_, (fun hn => by omega : _ → _), Nat.le_refl _, B5⟩, by simp [intN]; omega⟩
        show _ = _
        rw [HF.out, hB, lines_off _ _ _ (Nat.le_refl _), lines_off _ _ _ (by omega)]
      · have hE1 : E < l.length := (List.getElem?_eq_some_iff.1 hA).1
        have hE2 : E + 1 < l.length := (List.getElem?_eq_some_iff.1 hB).1
        have n1 := bytesAt_cell (HB.out.below B5) E hE1
        have n2 := bytesAt_cell (HB.out.below B5) (E + 1) hE2
        rw [show l[E]'hE1 = 13 by rw [List.getElem?_eq_getElem hE1] at hA; exact Option.some.inj hA] at n1
        rw [show l[E + 1]'hE2 = 10 by rw [List.getElem?_eq_getElem hE2] at hB; exact Option.some.inj hB] at n2
        clear hA hB
        have n3 := n2
        unfold Addr.add at n3
        rw [if_neg (by omega)] at n3
        go_wp2
        refine ⟨⟨N, acc', by rw [hC]; simp; omega, by simp [hla]; omega, HF, HG, by omega, B5⟩, by simp [intN]; omega⟩
      · have hE1 : E < l.length := (List.getElem?_eq_some_iff.1 hA).1
        have n1 := bytesAt_cell (HB.out.below B5) E hE1
        rw [show l[E]'hE1 = 10 by rw [List.getElem?_eq_getElem hE1] at hA; exact Option.some.inj hA] at n1
        clear hA
        go_wp2
        refine ⟨⟨N, acc', by rw [hB]; simp, by simp [hla]; omega, HF, HG, by omega, B5⟩, by simp [intN]; omega⟩
    · have HF : Hid (L = acc) := by show _ = _; rw [hacc.out, lines_off _ _ _ (by omega)]; simp
      obtain rfl : L = acc := HF.out
      clear hacc hwh HW HP HI HT HF
      go_wp2_with fail
      refine (awake7_x wr).mono ?_
      rintro e w2 ⟨rfl, hb2⟩
      go_wp2
      go_ret
      exact ⟨rfl, below_next hb1 (below_next hb hb2)⟩
set_option maxHeartbeats 4000000 in
set_option maxRecDepth 100000 in
theorem sparts_none (c : Nat) (w : World) :
    Calls Try.prog 6 #[.slice none 0 c] w fun e w' => e = .returned (.bool true) ∧ Below w.heap.size w w' := by
  have HL : Hid (Calls Try.prog 9 #[.slice none 0 c] w fun e w' => LinesE w [] e w') := lines_x [] none c w (fun j b hj => by simp at hj) (Nat.zero_le _) (by decide)
  go_enter Try.func6, Try.ntmps6
  go_wp2_with fail
  refine HL.out.mono ?_
  rintro e w1 ⟨hb1, p, d, rfl, _⟩
  clear HL
  go_wp2_with fail
  go_loopw [4, 19] (fun av iv wr => av = .int .i64 0 ∧ iv = .int .i64 0 ∧ Below w.heap.size w wr) (fun _ _ _ => 0)
  case atStart => exact ⟨rfl, rfl, hb1⟩
  case round =>
    obtain ⟨rfl, rfl, hb⟩ := hrel
    go_wp2_with fail
    refine (awake7_x wr).mono ?_
    rintro e w2 ⟨rfl, hb2⟩
    go_wp2
    go_ret
    exact ⟨rfl, below_next hb hb2⟩
set_option maxHeartbeats 4000000 in
set_option maxRecDepth 100000 in
theorem sparts_long (a : Option Addr) (n c : Nat) (w : World) (hn : 500 < n) :
    Calls Try.prog 6 #[.slice a n c] w fun e w' => e = .returned (.bool true) ∧ Below w.heap.size w w' := by
  go_enter Try.func6, Try.ntmps6
  go_wp2_with fail
  refine (awake7_x w).mono ?_
  rintro e w3 ⟨rfl, hb3⟩
  go_wp2
  go_ret
  exact ⟨rfl, hb3⟩
theorem sparts_walk (a : Option Addr) (l : Bs) (c : Nat) (w : World) (hc : l.length ≤ c) (h : BytesAt w a l) :
    Calls Try.prog 6 #[.slice a l.length c] w fun e w' => e = .returned (.bool true) ∧ Below w.heap.size w w' := by
  by_cases hl : l.length ≤ 500
  · cases a with
    | some ad => exact sparts_some ad l c w h hc hl
    | none =>
      have hn : l = [] := by
        cases l with
        | nil => rfl
        | cons a r => obtain ⟨ad, e, _⟩ := h 0 a rfl; cases e
      subst hn
      exact sparts_none c w
  · exact sparts_long a l.length c w (by omega)
end Go.Proofs.Ytlhllhdjcbaipaa
