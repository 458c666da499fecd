/- Package scan: Where, Long, lineAt. -/
import Derived.Test.YtfmanmidihofgaaDoorSc
import Derived.Lib.MinMax
import Derived.Laws.ResultCell
namespace Go.Proofs.YtfmanmidihofgaaDoor
open Go.ChangeShapes Go.WideShapes Go.RowKit Go.Sort
/-- A place, held to the text. -/
def heldAt (l : Bs) (t : Int) : Nat := (min (max t 0) (l.length : Int)).toNat
theorem heldAt_le (l : Bs) (t : Int) : heldAt l t ≤ l.length := by unfold heldAt; omega
theorem heldAt_is (l : Bs) (t : Int) : min (max t 0) (l.length : Int) = (heldAt l t : Int) := by unfold heldAt; omega
theorem heldAt_nat (l : Bs) (k : Nat) (h : k ≤ l.length) : heldAt l (k : Int) = k := by unfold heldAt; omega
set_option maxHeartbeats 2000000 in
set_option maxRecDepth 100000 in
theorem long_no (a : Option Addr) (n c : Nat) (w : World) (hn : n ≤ 1000000) :
    Calls Tryd.prog 14 #[.slice a n c] w fun e w' => e = .returned (.tuple #[.agg #[.int .i64 0, .int .i64 0], .bool false]) ∧ Below w.heap.size w w' := by
  go_enter Tryd.func14, Tryd.ntmps14
  go_wp2
  exact bodyPost_ret (v := .tuple #[.agg #[.int .i64 0, .int .i64 0], .bool false]) (by simp [results, Tryd.results14, go_sem]) rfl ⟨rfl, ball (Below.refl _ _)⟩
set_option maxHeartbeats 2000000 in
set_option maxRecDepth 100000 in
theorem long_yes (a : Option Addr) (n c : Nat) (w : World) (hn : 1000000 < n) :
    Calls Tryd.prog 14 #[.slice a n c] w fun e w' => e = .returned (.tuple #[.agg #[.int .i64 2, .int .i64 1000000], .bool true]) ∧ Below w.heap.size w w' := by
  go_enter Tryd.func14, Tryd.ntmps14
  go_wp2
  exact bodyPost_ret (v := .tuple #[.agg #[.int .i64 2, .int .i64 1000000], .bool true]) (by simp [results, Tryd.results14, go_sem]) rfl ⟨rfl, ball (Below.refl _ _)⟩
theorem lineT_yes {l : Bs} {t : Nat} (h : 10 ∈ l.drop t) : lineT l t = trimV ((l.drop t).takeWhile (fun c => c != 10)) ∧ lineN l t = t + ((l.drop t).takeWhile (fun c => c != 10)).length + 1 := ⟨if_pos h, if_pos h⟩
theorem lineT_no {l : Bs} {t : Nat} (h : 10 ∉ l.drop t) : lineT l t = l.drop t ∧ lineN l t = l.length := ⟨if_neg h, if_neg h⟩
theorem BytesAt.prefix {w : World} {a : Option Addr} {l p : Bs} (h : BytesAt w a l) (hp : p <+: l) : BytesAt w a p := fun j b hj => h j b (by
  obtain ⟨r, rfl⟩ := hp
  rw [List.getElem?_append_left (List.getElem?_eq_some_iff.1 hj).1]; exact hj)
theorem trimV_prefix (p : Bs) : trimV p <+: p := by
  unfold trimV; split
  · exact List.dropLast_prefix p
  · exact List.prefix_rfl
set_option maxHeartbeats 2000000 in
set_option maxRecDepth 100000 in
theorem lineAt_x (l : Bs) (a : Option Addr) (c t : Nat) (w : World) (h : BytesAt w a l) (hc : l.length ≤ c) (hl : l.length ≤ 1000000) (ht : t ≤ l.length) :
    Calls Tryd.prog 25 #[.slice a l.length c, .int .i64 t] w fun e w' => e = .returned (.tuple #[.string (baS (lineT l t)), .int .i64 (lineN l t)]) ∧ Below w.heap.size w w' := by
  have h1 := h.drop c t hc
  have hlen : (l.drop t).length = l.length - t := by rw [List.length_drop]
  have HC : Hid (∀ V g, BytesAt V (adv a c t) (l.drop t) → V.cell? ⟨g, 0, none⟩ = some (.int .u8 10) → Calls Tryd.prog 32 #[.slice (adv a c t) (l.length - t) (c - t), .slice (some ⟨g, 0, none⟩) 1 1] V fun e w' => e = .returned (cutE (l.drop t) (adv a c t) (c - t)) ∧ ∃ q, w' = V.drewN q) := fun V g hV hg => by
    have := bcut_x (l.drop t) (adv a c t) (c - t) g V hV (by omega) (by omega) hg
    rwa [hlen] at this
  have H1 := Lib.hid h1
  have S := fun V => sl_l a l.length c t ht V
  by_cases hm : 10 ∈ l.drop t
  · obtain ⟨e1, e2⟩ := lineT_yes hm
    rw [e1, e2]
    unfold cutE at HC
    simp only [if_pos hm] at HC
    have hp : ((l.drop t).takeWhile (fun c => c != 10)).length ≤ l.length - t := by rw [← hlen]; exact (List.takeWhile_prefix _).length_le
    have H2 : Hid (∀ V, BytesAt V (adv a c t) (l.drop t) → BytesAt V (adv a c t) ((l.drop t).takeWhile (fun c => c != 10))) := fun V hV => hV.prefix (List.takeWhile_prefix _)
    generalize (l.drop t).takeWhile (fun c => c != 10) = p at *
    have HT : Hid (∀ V g, BytesAt V (adv a c t) p → V.cell? ⟨g, 0, none⟩ = some (.int .u8 13) → Calls Tryd.prog 33 #[.slice (adv a c t) p.length (c - t), .slice (some ⟨g, 0, none⟩) 1 1] V fun e w' => e = .returned (.slice (adv a c t) (trimV p).length (c - t)) ∧ w' = V) := fun V g hV hg => btrim_x p (adv a c t) (c - t) g V hV (by omega) (by omega) hg
    have HV : Hid (∀ V, BytesAt V (adv a c t) p → (convert 29 9 (.slice (adv a c t) (trimV p).length (c - t))).run Tryd.prog V = .ok (.string (baS (trimV p))) V) := fun V hV => conv_bytes (c - t) (hV.prefix (trimV_prefix p))
    generalize trimV p = q at *
    generalize q.length = qn at *
    generalize p.length = pn at *
    clear h h1 hlen hm e1 e2
    generalize adv (adv a c t) (c - t) (pn + 1) = a3 at *
    generalize adv a c t = a2 at *
    generalize c - t = c2 at *
    generalize l.length - t - (pn + 1) = z3 at *
    generalize c2 - (pn + 1) = c3 at *
    generalize hz : l.length - t = z2 at *
    go_enter Tryd.func25, Tryd.ntmps25
    go_wp2_with fail
    refine (HC.out _ _ (H1.out.below (ball (Below.refl _ _))) (by simp [go_sem])).mono ?_
    rintro e w' ⟨rfl, nq, rfl⟩
    have BW : Below w.heap.size w ((w.alloc (.cells #[.int .u8 10] 5)).drewN nq) := bdrew (ball (Below.refl _ _)) nq
    generalize (w.alloc (.cells #[.int .u8 10] 5)).drewN nq = W1 at *
    have HB := Lib.hid (H2.out _ (H1.out.below (ball (o := .cells #[.int .u8 13] 5) BW)))
    have hv := HV.out _ HB.out
    clear HV HC H1 H2
    generalize (l.drop t).length - (pn + 1) = z4 at *
    go_wp2_with fail
    refine (HT.out _ _ HB.out (by simp [go_sem])).mono ?_
    rintro e w' ⟨rfl, rfl⟩
    go_wp2
    go_ret2
    exact ⟨rfl, ball BW⟩
  · obtain ⟨e1, e2⟩ := lineT_no hm
    rw [e1, e2]
    unfold cutE at HC
    simp only [if_neg hm, hlen] at HC
    have HV : Hid (∀ V, BytesAt V (adv a c t) (l.drop t) → (convert 29 9 (.slice (adv a c t) (l.length - t) (c - t))).run Tryd.prog V = .ok (.string (baS (l.drop t))) V) := fun V hV => by
      have := conv_bytes (c - t) hV
      rwa [hlen] at this
    clear h h1 hlen hm e1 e2
    generalize adv a c t = a2 at *
    generalize c - t = c2 at *
    generalize l.drop t = q at *
    generalize l.length - t = z2 at *
    go_enter Tryd.func25, Tryd.ntmps25
    go_wp2_with fail
    refine (HC.out _ _ (H1.out.below (ball (Below.refl _ _))) (by simp [go_sem])).mono ?_
    rintro e w' ⟨rfl, nq, rfl⟩
    have BW : Below w.heap.size w ((w.alloc (.cells #[.int .u8 10] 5)).drewN nq) := bdrew (ball (Below.refl _ _)) nq
    generalize (w.alloc (.cells #[.int .u8 10] 5)).drewN nq = W1 at *
    have hv := HV.out _ (H1.out.below BW)
    clear HV HC
    go_wp2
    go_ret2
    exact ⟨rfl, BW⟩
end Go.Proofs.YtfmanmidihofgaaDoor
