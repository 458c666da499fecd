/- addr.parseByte and addr.parseGroup: a number without a nought ahead, a group of hex digits. -/
import Derived.Test.YtmnemjhkmllniaaDoorPh
import Derived.BigQuiet
namespace Go.Proofs.YtmnemjhkmllniaaDoor
open Go.ChangeShapes Go.WideShapes Go.RowKit Go.Sort

theorem bdrew {B : Nat} {a w : World} (h : Below B a w) (n : Nat) : Below B a (w.drewN n) := h.trans (Joins.below_draws _ _ _)

set_option maxHeartbeats 1000000 in
theorem puh_ok (s : ByteArray) (n : Nat) (w : World) (hne : s.size ≠ 0) (hmax : s.size ≤ 4) (h : hexM 0 s.data.toList = some n) :
    Calls Tryd.prog 21 #[.string s, .int .i64 16, .int .i64 16] w fun e w' => e = .returned (.tuple #[.int .u64 n, .nilIface]) ∧ Below w.heap.size w w' := by
  have hI := puh_in s hne hmax w
  rw [h] at hI
  have hI : Calls Tryd.prog 27 #[.string s, .int .i64 16, .int .i64 16] w fun e w' => e = .returned (.tuple #[.int .u64 n, .nilIface]) ∧ w' = Lib.bytesWorld w 5 s := hI
  clear h
  go_enter Tryd.func21, Tryd.ntmps21
  go_wp2_with fail
  refine hI.mono ?_
  rintro e W1 ⟨rfl, hW⟩
  have hb1 : Below w.heap.size w W1 := hW ▸ Lib.bytesWorld_below _ _ _
  clear hW
  go_wp2
  go_ret2
  exact ⟨rfl, hb1⟩
set_option maxHeartbeats 1000000 in
theorem puh_no (s : ByteArray) (w : World) (hg : Gl w) (hne : s.size ≠ 0) (hmax : s.size ≤ 4) (h : hexM 0 s.data.toList = none) :
    Calls Tryd.prog 21 #[.string s, .int .i64 16, .int .i64 16] w fun e w' => (∃ u N, e = .returned (.tuple #[.int .u64 u, .iface 63 (.pointer (some ⟨N, 0, none⟩))])) ∧ Below w.heap.size w w' := by
  have hI := puh_in s hne hmax w
  rw [h] at hI
  have hI : Calls Tryd.prog 27 #[.string s, .int .i64 16, .int .i64 16] w fun e w' => e = .returned (.tuple #[.int .u64 0, .iface 61 (.int .i64 2)]) ∧ w' = Lib.bytesWorld w 5 s := hI
  clear h
  go_enter Tryd.func21, Tryd.ntmps21
  go_wp2_with fail
  refine hI.mono ?_
  rintro e W1 ⟨rfl, hW⟩
  have hb1 : Below w.heap.size w W1 := hW ▸ Lib.bytesWorld_below _ _ _
  clear hW
  obtain ⟨ev, h1, h2⟩ := (hg.below hb1).es
  go_wp2_with fail
  refine (Tryd.strconv_toError_syntax ⟨#[80, 97, 114, 115, 101, 85, 105, 110, 116]⟩ s 16 16 ev _ (by omega) h1 h2).mono ?_
  rintro e W2 ⟨N, rfl, _, _, h3⟩
  go_wp2
  go_ret2
  exact ⟨⟨_, N, rfl⟩, hb1.trans (h3.mono hb1.size)⟩
set_option maxHeartbeats 400000 in
set_option maxRecDepth 100000 in
theorem puh_empty (w : World) (hg : Gl w) :
    Calls Tryd.prog 21 #[.string ⟨#[]⟩, .int .i64 16, .int .i64 16] w fun e w' => (∃ u N, e = .returned (.tuple #[.int .u64 u, .iface 63 (.pointer (some ⟨N, 0, none⟩))])) ∧ Below w.heap.size w w' := by
  have hI : Calls Tryd.prog 27 #[.string ⟨#[]⟩, .int .i64 16, .int .i64 16] w fun e w' => e = .returned (.tuple #[.int .u64 0, .iface 61 (.int .i64 2)]) ∧ w' = w := by
    go_enter Tryd.func27, Tryd.ntmps27
    go_wp2
    go_ret2
    exact ⟨rfl, rfl⟩
  go_enter Tryd.func21, Tryd.ntmps21
  go_wp2_with fail
  refine hI.mono ?_
  rintro e W1 ⟨rfl, rfl⟩
  obtain ⟨ev, h1, h2⟩ := hg.es
  go_wp2_with fail
  refine (Tryd.strconv_toError_syntax ⟨#[80, 97, 114, 115, 101, 85, 105, 110, 116]⟩ ⟨#[]⟩ 16 16 ev _ (by decide) h1 h2).mono ?_
  rintro e W2 ⟨N, rfl, _, _, h3⟩
  go_wp2
  go_ret2
  exact ⟨⟨_, N, rfl⟩, h3⟩

theorem decV_ok {l : Bs} {n : Nat} (h : decV l = some n) : l.length ≤ 3 ∧ ¬ (1 < l.length ∧ l.head? = some 48) ∧ Lib.parseUintB 8 l = .ok n := by
  unfold decV at h
  split at h
  · cases h
  · rename_i hc
    split at h
    · rename_i u hu
      cases h
      exact ⟨by omega, fun e => hc (Or.inr e), hu⟩
    · cases h
theorem decV_no {l : Bs} (h : decV l = none) (h3 : l.length ≤ 3) (h0 : ¬ (1 < l.length ∧ l.head? = some 48)) : ∀ u, Lib.parseUintB 8 l ≠ .ok u := by
  intro u hu
  unfold decV at h
  rw [if_neg (by intro e; rcases e with e | e; omega; exact h0 e), hu] at h
  cases h
theorem head_byte (s : ByteArray) (h : 1 < s.size) : s.data.toList.head? = some (s[0]'(by omega)) := by
  have hl := ba_len s
  rw [List.head?_eq_getElem?, List.getElem?_eq_getElem (by omega)]
  rfl
end Go.Proofs.YtmnemjhkmllniaaDoor
