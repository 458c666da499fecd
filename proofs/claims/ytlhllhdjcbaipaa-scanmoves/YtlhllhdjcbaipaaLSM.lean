/- ScanMoves: for any bytes the law answers true. -/
import Derived.Test.YtlhllhdjcbaipaaSh
namespace Go.Proofs.Ytlhllhdjcbaipaa
open Go.ChangeShapes Go.WideShapes Go.RowKit Go.Sort
set_option maxHeartbeats 4000000 in
set_option maxRecDepth 100000 in
theorem smoves_some (ad : Addr) (l : Bs) (c : Nat) (w : World) (h : BytesAt w (some ad) l) (hc : l.length ≤ c) (hl : l.length ≤ 300) :
    Calls Try.prog 4 #[.slice (some ad) l.length c] w fun e w' => e = .returned (.bool true) ∧ Below w.heap.size w w' := by
  have HH := Lib.hid h
  have HW : Hid (∀ (V : World) (k : Nat), BytesAt V (some ad) l → k ≤ l.length → Calls Try.prog 7 #[.slice (some ad) l.length c, .int .i64 (k : Int)] V fun e w' => e = .returned (.tuple #[.int .i64 (1 + (lfs (l.take k) : Int)), .int .i64 (1 + (since (l.take k) : Int))]) ∧ Below V.heap.size V w') := fun V k hV hk => by
    have := where_x l (some ad) c k V hV hc (by omega)
    rwa [heldAt_nat l k hk] at this
  have HE : Hid (∀ (V : World), BytesAt V (some ad) l → Calls Try.prog 7 #[.slice (some ad) l.length c, .int .i64 ((l.length : Int) + 7)] V fun e w' => e = .returned (.tuple #[.int .i64 (1 + (lfs l : Int)), .int .i64 (1 + (since l : Int))]) ∧ Below V.heap.size V w') := fun V hV => by
    have := where_x l (some ad) c ((l.length : Int) + 7) V hV hc (by omega)
    rwa [show heldAt l ((l.length : Int) + 7) = l.length by unfold heldAt; omega, List.take_length] at this
  have HB : Hid (∀ i, i < l.length → lfs (l.take (i + 1)) = lfs (l.take i) + (if l[i]? = some 10 then 1 else 0) ∧ since (l.take (i + 1)) = if l[i]? = some 10 then 0 else since (l.take i) + 1) := fun i hi => by
    rw [take_snoc (List.getElem?_eq_getElem hi), lfs_snoc, since_snoc, List.getElem?_eq_getElem hi]
    simp
  have HL : Hid (lfs (l.take l.length) = lfs l ∧ since (l.take l.length) = since l) := by
    show _ ∧ _
    rw [List.take_length]; exact ⟨rfl, rfl⟩
  clear h
  go_enter Try.func4, Try.ntmps4
  go_wp2_with fail
  refine (HW.out _ 0 HH.out (Nat.zero_le _)).mono ?_
  rintro e w1 ⟨rfl, hb1⟩
  rw [show (1 + (lfs (l.take 0) : Int)) = 1 by simp [lfs], show (1 + (since (l.take 0) : Int)) = 1 by simp [since]]
  go_wp2_with fail
  go_loopw [3, 4, 27] (fun lv cv iv wr => ∃ i : Nat, lv = .int .i64 (1 + (lfs (l.take i) : Int)) ∧ cv = .int .i64 (1 + (since (l.take i) : Int)) ∧ iv = .int .i64 (i : Int) ∧ i ≤ l.length ∧ Below w.heap.size w wr) (fun _ _ iv _ => l.length + 1 - intN iv)
  case atStart => exact ⟨0, by simp [lfs], by simp [since], rfl, Nat.zero_le _, hb1⟩
  case round =>
    obtain ⟨i, rfl, rfl, rfl, hi, hb⟩ := hrel
    by_cases hlt : i < l.length
    · obtain ⟨e1, e2⟩ := HB.out i hlt
      have hcall := HW.out wr (i + 1) (HH.out.below hb) hlt
      rw [show (((i + 1 : Nat)) : Int) = (i : Int) + 1 from rfl] at hcall
      have HC := bytesAt_cell HH.out i hlt
      have hf : lfs (l.take i) ≤ 300 := Nat.le_trans (lfs_le _) (by rw [List.length_take]; omega)
      have hs : since (l.take i) ≤ 300 := Nat.le_trans (since_le _) (by rw [List.length_take]; omega)
      have HCE := fun V (hV : Below w.heap.size w V) => bytesAt_cell (HH.out.below hV) i hlt
      by_cases h10 : l[i]? = some 10
      · rw [if_pos h10] at e1 e2
        have h10' : l[i]'hlt = 10 := by rw [List.getElem?_eq_getElem hlt] at h10; exact Option.some.inj h10
        have HF : Hid (lfs (l.take (i + 1)) = lfs (l.take i) + 1 ∧ since (l.take (i + 1)) = 0) := ⟨e1, e2⟩
        rw [e1, e2, show (((lfs (l.take i) + 1 : Nat)) : Int) = (lfs (l.take i) : Int) + 1 from rfl] at hcall
        rw [h10'] at HCE
        generalize hfe : lfs (l.take i) = f at *
        generalize hse : since (l.take i) = s at *
        have hwf : IntKind.i64.wrap (1 + (f : Int) + 1) = 1 + ((f : Int) + 1) := by rw [IntKind.wrap_i64]; omega
        have HCALL := Lib.hid hcall
        have HCE := Lib.hid HCE
        clear hcall h10 h10' e1 e2 HC hfe hse hf hs
        go_wp2_with fail
        refine HCALL.out.mono ?_
        rintro e w2 ⟨rfl, hb2⟩
        have B2 := below_next hb hb2
        have hcell := HCE.out w2 B2
        clear hb2 HCALL HCE hb
        go_wp2
        refine ⟨⟨i + 1, ?_, ?_, by simp, hlt, B2⟩, by simp [intN]; omega⟩
        · rw [HF.out.1]; rfl
        · rw [HF.out.2]; rfl
      · rw [if_neg h10] at e1 e2
        have h10' : ¬ (((l[i]'hlt).toNat : Int) = 10) := fun e => h10 (by rw [List.getElem?_eq_getElem hlt, is10 (b := l[i]'hlt) (by simp [e])])
        have HF : Hid (lfs (l.take (i + 1)) = lfs (l.take i) ∧ since (l.take (i + 1)) = since (l.take i) + 1) := ⟨e1, e2⟩
        rw [e1, e2, show (((since (l.take i) + 1 : Nat)) : Int) = (since (l.take i) : Int) + 1 from rfl] at hcall
        generalize hfe : lfs (l.take i) = f at *
        generalize hse : since (l.take i) = s at *
        generalize (l[i]'hlt).toNat = u at *
        have hwf : IntKind.i64.wrap (1 + (s : Int) + 1) = 1 + ((s : Int) + 1) := by rw [IntKind.wrap_i64]; omega
        have HCALL := Lib.hid hcall
        have HCE := Lib.hid HCE
        clear hcall h10 e1 e2 HC hfe hse hf hs
        go_wp2_with fail
        refine HCALL.out.mono ?_
        rintro e w2 ⟨rfl, hb2⟩
        have B2 := below_next hb hb2
        have hcell := HCE.out w2 B2
        clear hb2 HCALL HCE hb
        go_wp2
        refine ⟨⟨i + 1, ?_, ?_, by simp, hlt, B2⟩, by simp [intN]; omega⟩
        · rw [HF.out.1]
        · rw [HF.out.2]; rfl
    · obtain rfl : i = l.length := by omega
      rw [HL.out.1, HL.out.2]
      have hcall := Lib.hid (HE.out wr (HH.out.below hb))
      have hwf : IntKind.i64.wrap ((l.length : Int) + 7) = (l.length : Int) + 7 := by rw [IntKind.wrap_i64]; omega
      generalize lfs l = f at *
      generalize since l = s at *
      go_wp2_with fail
      refine hcall.out.mono ?_
      rintro e w2 ⟨rfl, hb2⟩
      have B2 := below_next hb hb2
      clear hb2 hcall hb
      go_wp2_with fail
      refine (awake7_x w2).mono ?_
      rintro e w3 ⟨rfl, hb3⟩
      go_wp2
      go_ret
      exact ⟨rfl, below_next B2 hb3⟩
set_option maxHeartbeats 4000000 in
set_option maxRecDepth 100000 in
theorem smoves_none (c : Nat) (w : World) :
    Calls Try.prog 4 #[.slice none 0 c] w fun e w' => e = .returned (.bool true) ∧ Below w.heap.size w w' := by
  have HW : Hid (∀ (V : World) (t : Int), Calls Try.prog 7 #[.slice none 0 c, .int .i64 t] V fun e w' => e = .returned (.tuple #[.int .i64 1, .int .i64 1]) ∧ Below V.heap.size V w') := fun V t => by
    have := where_x [] none c t V (fun j b hj => by simp at hj) (Nat.zero_le _) (by decide)
    rw [List.take_nil] at this
    exact this
  go_enter Try.func4, Try.ntmps4
  go_wp2_with fail
  refine (HW.out _ _).mono ?_
  rintro e w1 ⟨rfl, hb1⟩
  go_wp2_with fail
  go_loopw [3, 4, 27] (fun lv cv iv wr => lv = .int .i64 1 ∧ cv = .int .i64 1 ∧ iv = .int .i64 0 ∧ Below w.heap.size w wr) (fun _ _ _ _ => 0)
  case atStart => exact ⟨rfl, rfl, rfl, hb1⟩
  case round =>
    obtain ⟨rfl, rfl, rfl, hb⟩ := hrel
    go_wp2_with fail
    refine (HW.out _ _).mono ?_
    rintro e w2 ⟨rfl, hb2⟩
    have B2 := below_next hb hb2
    clear hb2 hb
    go_wp2_with fail
    refine (awake7_x w2).mono ?_
    rintro e w3 ⟨rfl, hb3⟩
    go_wp2
    go_ret
    exact ⟨rfl, below_next B2 hb3⟩
set_option maxHeartbeats 4000000 in
set_option maxRecDepth 100000 in
theorem smoves_long (a : Option Addr) (n c : Nat) (w : World) (hn : 300 < n) :
    Calls Try.prog 4 #[.slice a n c] w fun e w' => e = .returned (.bool true) ∧ Below w.heap.size w w' := by
  go_enter Try.func4, Try.ntmps4
  go_wp2_with fail
  refine (awake7_x w).mono ?_
  rintro e w3 ⟨rfl, hb3⟩
  go_wp2
  go_ret
  exact ⟨rfl, hb3⟩
theorem smoves_walk (a : Option Addr) (l : Bs) (c : Nat) (w : World) (hc : l.length ≤ c) (h : BytesAt w a l) :
    Calls Try.prog 4 #[.slice a l.length c] w fun e w' => e = .returned (.bool true) ∧ Below w.heap.size w w' := by
  by_cases hl : l.length ≤ 300
  · cases a with
    | some ad => exact smoves_some ad l c w h hc hl
    | none =>
      have hn : l = [] := by
        cases l with
        | nil => rfl
        | cons a r => obtain ⟨ad, e, _⟩ := h 0 a rfl; cases e
      subst hn
      exact smoves_none c w
  · exact smoves_long a l.length c w (by omega)
end Go.Proofs.Ytlhllhdjcbaipaa
