/- Package json: named. -/
import Derived.Test.YtgiihljiekagdaaDoorLp
import Derived.Test.YtgiihljiekagdaaDoorLm
import Derived.Lib.SmallJoins
namespace Go.Proofs.YtgiihljiekagdaaDoor
open Go.ChangeShapes Go.WideShapes Go.RowKit Go.Sort
theorem last_two (W : World) (o1 o2 : Obj) (k : Nat) (e : W.heap.size = k) : ((W.alloc o1).alloc o2).heap[k]? = some o1 := by
  subst e
  exact ((MapKept.heap_alloc (W.alloc o1) o2).2 _ (by simp)).trans (MapKept.heap_alloc W o1).1
theorem map_start {n : Nat} {l : Bs} {b o c R : Nat} {w : World} (hs : Src l b o c R w) (hR : R < w.heap.size) (inn : Nat) :
    MapI n l b o c R (((w.alloc (.cells #[.pointer (some ⟨R, 0, none⟩)] 44)).alloc (.cells #[.int .i64 (inn : Int)] 3)).alloc (.cells #[.int .i64 0, .int .i64 0, .string { data := #[] }, .slice none 0 0, .slice none 0 0, .int .i64 0] 26)) w.heap.size (w.heap.size + 1 + 1 + 1 + 1 + 1) (w.heap.size + 1) (w.heap.size + 1 + 1 + 1) (w.heap.size + 1 + 1 + 1 + 1) (w.heap.size + 6) inn ([], []) ((((((w.alloc (.cells #[.pointer (some ⟨R, 0, none⟩)] 44)).alloc (.cells #[.int .i64 (inn : Int)] 3)).alloc (.cells #[.int .i64 0, .int .i64 0, .string { data := #[] }, .slice none 0 0, .slice none 0 0, .int .i64 0] 26)).alloc (.cells #[.int .i64 7, .int .i64 0, .string { data := #[] }, .slice none 0 0, .slice none 0 0, .int .i64 0] 26)).alloc (.map #[] 0)).alloc (.cells #[.map (some (w.heap.size + 1 + 1 + 1 + 1))] 93)) := by
  refine ⟨.of R (ball (ball (ball (Below.refl _ _)))), hs.below (by exact ball (ball (ball (Below.refl _ _)))), by omega, by omega, by omega, ?_, ?_, by simp [go_sem], by simp [go_sem], by simp [go_sem], ?_, rfl, ⟨.slice none 0 0, .slice none 0 0, ⟨by simp [go_sem], by simp [go_sem], by simp [go_sem], by simp [go_sem], by simp [go_sem], by simp [go_sem], fun o => by simp [go_sem], by simp [go_sem]⟩, VRow.none n _ _ _, keys_none _ _, fun g h => by cases h⟩⟩
  · simp [go_sem]
  · simp [go_sem]; omega
  · unfold SetAt
    exact Joins.ownsMap_empty (last_two _ _ _ _ (by simp))
set_option maxHeartbeats 8000000 in
set_option maxRecDepth 100000 in
theorem named_x {n : Nat} {l : Bs} {b o c R : Nat} {w : World} {inn i : Nat} (vf : Nat → Bs → PJ Js) (hs : Src l b o c R w) (h : Rd l.length b o c R w i 0 0) (h0 : l[i]? = some 123)
    (hv : inn ≠ 64 → ∀ w i, Src l b o c R w → Rd l.length b o c R w i 0 0 → i ≤ l.length → Calls Tryd.prog 21 #[.pointer (some ⟨R, 0, none⟩), .int .i64 ((inn + 1 : Nat) : Int)] w fun e w' => ValP n l b o c R w ((vf i (l.drop i)).andThen fun v j t => (skipJ 0 0 j t).andThen fun _ j2 t2 => .ok v j2 t2) e w')
    (hvf : ∀ i j s v t, vf i s = .ok v j t → i < j) (hin : inn ≤ 64) :
    Calls Tryd.prog 38 #[.pointer (some ⟨R, 0, none⟩), .int .i64 (inn : Int)] w fun e w' => ValP (n + 1) l b o c R w (mapR vf l inn i) e w' := by
  have HS := Lib.hid hs
  have HR := Lib.hid h
  have H0 := Lib.hid h0
  have HV := Lib.hid hv
  have HVF := Lib.hid hvf
  have HRL : Hid (R < w.heap.size) := h.lt
  clear hs h h0 hv hvf
  have hmk : ∀ W : World, (Instr.makeMap 93 none).run Tryd.prog W = .ok (.map (some W.heap.size)) (W.alloc (.map #[] 0)) := fun W => rfl
  go_enter Tryd.func38, Tryd.ntmps38
  go_wp2_with fail
  have IS := Lib.hid (map_start (n := n) HS.out HRL.out inn)
  have B3 : Below w.heap.size w (((w.alloc (.cells #[.pointer (some ⟨R, 0, none⟩)] 44)).alloc (.cells #[.int .i64 (inn : Int)] 3)).alloc (.cells #[.int .i64 0, .int .i64 0, .string { data := #[] }, .slice none 0 0, .slice none 0 0, .int .i64 0] 26)) := ball (ball (ball (Below.refl _ _)))
  have B4 : Below w.heap.size w ((((((w.alloc (.cells #[.pointer (some ⟨R, 0, none⟩)] 44)).alloc (.cells #[.int .i64 (inn : Int)] 3)).alloc (.cells #[.int .i64 0, .int .i64 0, .string { data := #[] }, .slice none 0 0, .slice none 0 0, .int .i64 0] 26)).alloc (.cells #[.int .i64 7, .int .i64 0, .string { data := #[] }, .slice none 0 0, .slice none 0 0, .int .i64 0] 26)).alloc (.map #[] 0)).alloc (.cells #[.map (some (w.heap.size + 1 + 1 + 1 + 1))] 93)) := ball (ball (ball (ball (ball (ball (Below.refl _ _))))))
  have B3 := Lib.hid B3
  have R4 := Lib.hid (HR.out.below B4)
  have Z3 : Six (((w.alloc (.cells #[.pointer (some ⟨R, 0, none⟩)] 44)).alloc (.cells #[.int .i64 (inn : Int)] 3)).alloc (.cells #[.int .i64 0, .int .i64 0, .string { data := #[] }, .slice none 0 0, .slice none 0 0, .int .i64 0] 26)) (w.heap.size + 1 + 1) (.int .i64 0) (.int .i64 0) (.string { data := #[] }) (.slice none 0 0) (.slice none 0 0) (.int .i64 0) :=
    ⟨by simp [go_sem], by simp [go_sem], by simp [go_sem], by simp [go_sem], by simp [go_sem], by simp [go_sem], fun o => by simp [go_sem], by simp [go_sem]⟩
  have Z3 := Lib.hid Z3
  clear B4 HS HR hmk
  generalize ((((((w.alloc (.cells #[.pointer (some ⟨R, 0, none⟩)] 44)).alloc (.cells #[.int .i64 (inn : Int)] 3)).alloc (.cells #[.int .i64 0, .int .i64 0, .string { data := #[] }, .slice none 0 0, .slice none 0 0, .int .i64 0] 26)).alloc (.cells #[.int .i64 7, .int .i64 0, .string { data := #[] }, .slice none 0 0, .slice none 0 0, .int .i64 0] 26)).alloc (.map #[] 0)).alloc (.cells #[.map (some (w.heap.size + 1 + 1 + 1 + 1))] 93)) = w4 at *
  generalize (((w.alloc (.cells #[.pointer (some ⟨R, 0, none⟩)] 44)).alloc (.cells #[.int .i64 (inn : Int)] 3)).alloc (.cells #[.int .i64 0, .int .i64 0, .string { data := #[] }, .slice none 0 0, .slice none 0 0, .int .i64 0] 26)) = w3 at *
  generalize hP2 : w.heap.size = P2 at *
  have HP2 := Lib.hid hP2
  have HX := Lib.hid (inside_M (stepJ vf true) (MapI n l b o c R w3 P2 (P2 + 1 + 1 + 1 + 1 + 1) (P2 + 1) (P2 + 1 + 1 + 1) (P2 + 1 + 1 + 1 + 1) (P2 + 6) inn) (LstB R w3 (P2 + 1 + 1 + 1) 7) (cap := #[.pointer (some ⟨P2, 0, none⟩), .pointer (some ⟨P2 + 1 + 1 + 1 + 1 + 1, 0, none⟩), .pointer (some ⟨P2 + 1, 0, none⟩), .pointer (some ⟨P2 + 1 + 1 + 1, 0, none⟩)])
    (fun s w h => h.src) (fun s w w' h hb => h.next hb) (fun s w h => h.bad) (fun w w' h hb => h.next hb) (fun s => s.1.length) (fun s i t s2 j t2 h => Nat.le_of_eq (step_size h))
    inn (fun hne s w i hz hI hr hi => item_M vf s hz hI hr hi (HV.out hne) HVF.out hin) ([], []) rfl IS.out R4.out H0.out)
  clear HV HVF IS R4 H0 hP2
  refine HX.out.mono ?_
  intro e w5 hx
  clear HX
  rcases hx with ⟨s2, j, q1, q2, rfl, q4, q5⟩ | ⟨k, a, j, q1, rfl, q4, q5⟩
  · obtain ⟨v, kv, hsix, hrow, hkr, _⟩ := q4.row
    obtain ⟨p, m, q, rfl⟩ : ∃ p m q, v = .slice p m q := by
      obtain ⟨cs, S, h3, _⟩ := hrow
      obtain ⟨p, q, e, _⟩ := own_slice h3
      exact ⟨p, _, q, e⟩
    obtain ⟨rfl, hq, hri⟩ := hrow.row
    obtain ⟨pk, qk, rfl, _⟩ := own_slice hkr
    obtain ⟨_, hqk, hki⟩ := keys_row hkr
    have KI := Lib.hid hki
    have RI := Lib.hid hri
    have Q5 := Lib.hid q5
    have Q4 := Lib.hid q4.but
    have HE : Hid (mapR vf l inn i = .ok (.mk 7 0 [] s2.1 s2.2 0) j (l.drop j)) := Lib.hid (by unfold mapR; rw [q1, PJ.andThen_ok])
    obtain ⟨k0, k1, k2, k3, k4, k5, kf, kl⟩ := hsix
    have ZZ := Lib.hid (Z3.out.but q4.but (by have := HRL.out; have := HP2.out; omega))
    obtain ⟨z0, z1, z2, z3, z4, z5, zf, zl⟩ := ZZ.out
    obtain ⟨y0, y1, y2, y3, y4, y5, yf, yl⟩ := ZZ.out.put (.int .i64 7) (.int .i64 0) (.string { data := #[] }) (.slice p s2.1.length q) (.slice pk s2.2.length qk) (.int .i64 0)
    unfold put6 at y0 y1 y2 y3 y4 y5
    clear q1 q4 q5 hri hrow hkr hki Z3
    go_wp2_with fail
    refine bodyPost_ret (v := .tuple #[aggJ 7 0 [] p s2.1.length q pk s2.2.length qk 0, .bool true]) (by simp [results, Tryd.results38, go_sem, aggJ, y0, y1, y2, y3, y4, y5]; rfl) rfl ?_
    exact grp_fin (RES := P2 + 1 + 1) (base := P2 + 6) (But.trans (.of R (HP2.out ▸ B3.out)) Q4.out) ⟨by have := HP2.out; omega, by omega, by have := HRL.out; have := HP2.out; omega⟩ RI.out hq KI.out hqk HE.out q2 Q5.out (by unfold put6; rfl) rfl
  · obtain ⟨p, p2, m, q, m2, q2, hsix⟩ := q4.six
    have Q5 := Lib.hid q5
    have Q4 := Lib.hid q4.but
    have HE : Hid (mapR vf l inn i = .bad k a) := Lib.hid (by unfold mapR; rw [q1, PJ.andThen_bad])
    obtain ⟨k0, k1, k2, k3, k4, k5, kf, kl⟩ := hsix
    have ZZ := Lib.hid (Z3.out.but q4.but (by have := HRL.out; have := HP2.out; omega))
    obtain ⟨z0, z1, z2, z3, z4, z5, zf, zl⟩ := ZZ.out
    obtain ⟨y0, y1, y2, y3, y4, y5, yf, yl⟩ := ZZ.out.put (.int .i64 7) (.int .i64 0) (.string { data := #[] }) (.slice p m q) (.slice p2 m2 q2) (.int .i64 0)
    unfold put6 at y0 y1 y2 y3 y4 y5
    clear q1 q4 q5 Z3
    go_wp2_with fail
    refine bodyPost_ret (v := .tuple #[aggJ 7 0 [] p m q p2 m2 q2 0, .bool false]) (by simp [results, Tryd.results38, go_sem, aggJ, y0, y1, y2, y3, y4, y5]; rfl) rfl ?_
    exact grp_bad (RES := P2 + 1 + 1) (base := P2 + 6) (But.trans (.of R (HP2.out ▸ B3.out)) Q4.out) ⟨by have := HP2.out; omega, by omega, by have := HRL.out; have := HP2.out; omega⟩ HE.out Q5.out (by unfold put6; rfl) rfl
end Go.Proofs.YtgiihljiekagdaaDoor
