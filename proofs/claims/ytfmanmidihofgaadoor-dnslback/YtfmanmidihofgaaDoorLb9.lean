/- Arguments as they lie in memory: rows of bytes with their capacity, rows of numbers. -/
import Derived.Test.YtfmanmidihofgaaDoorLb8
import Derived.Test.YtfmanmidihofgaaDoorTl
namespace Go.Proofs.YtfmanmidihofgaaDoor
open Go.ChangeShapes Go.WideShapes Go.ChangeAt Go.RowKit Go.Joins
set_option maxRecDepth 100000 in
theorem bytes_of9 {H : Type} {enc : TypeId × Value → H} {W : World} {b0 base : Nat} {held : Bool} {v : Value} {d : DataW H} {ps : List MemPlace}
    (hval : Value.okWide Tryd.prog W .any b0 29 v) (h : DataW.Trod enc Tryd.prog W base (fun _ => true) held 29 v d ps) : ∃ (a : Option Addr) (l : Bs) (c : Nat), v = .slice a l.length c ∧ (l.length ≤ c ∧ (a = none → c = 0)) ∧ BytesAt W a l := by
  obtain ⟨a, l, c, hv, hc, hb⟩ := bytes_of hval h
  refine ⟨a, l, c, hv, ⟨hc, fun ha => ?_⟩, hb⟩
  subst ha
  obtain ⟨fuel, hf⟩ := h
  rcases open_ints Tryd.underlying29 Tryd.underlying5 (by kernel_rfl) hf with ⟨hcs, _⟩ | ⟨a', len, cap, zs, hcs, _⟩
  · rw [hv] at hcs
    simp [Value.cells] at hcs
    exact hcs.2
  · rw [hv] at hcs
    simp [Value.cells] at hcs
set_option maxRecDepth 100000 in
theorem ints_of9 {H : Type} {enc : TypeId × Value → H} {W : World} {b0 base : Nat} {held : Bool} {v : Value} {d : DataW H} {ps : List MemPlace}
    (hval : Value.okWide Tryd.prog W .any b0 38 v) (h : DataW.Trod enc Tryd.prog W base (fun _ => true) held 38 v d ps) : ∃ (a : Option Addr) (l : List Int) (c : Nat), v = .slice a l.length c ∧ IntsAt W a l ∧ ∀ z ∈ l, (Lit.int .i64 z).wf = true := by
  obtain ⟨a, n, c, rfl⟩ := okWide_slice Tryd.underlying38 hval
  obtain ⟨fuel, hf⟩ := h
  rcases open_ints Tryd.underlying38 Tryd.underlying3 (by kernel_rfl) hf with ⟨hcs, _⟩ | ⟨a', len, cap, zs, hcs, _, hl, hm, hz, _, hc, hw⟩
  · simp [Value.cells] at hcs
    obtain ⟨rfl, rfl, rfl⟩ := hcs
    exact ⟨none, [], 0, rfl, fun j b hj => by simp at hj, fun z hz => by simp at hz⟩
  · simp [Value.cells] at hcs
    obtain ⟨rfl, rfl, rfl⟩ := hcs
    simp at hz
    have hlen : (zs.take n).length = n := by simp; omega
    refine ⟨some a', zs.take n, c, by rw [hlen], fun j z hj => ?_, fun z hz => hw z (List.mem_of_mem_take hz)⟩
    have hjn : j < n := by have := (List.getElem?_eq_some_iff.1 hj).1; rw [hlen] at this; exact this
    have hj' : j < zs.length := by omega
    have e := hc j hj'
    have hg : zs.getD j 0 = z := by
      rw [List.getElem?_take_of_lt hjn, List.getElem?_eq_getElem hj'] at hj
      simp [List.getD, List.getElem?_eq_getElem hj'] at hj ⊢
      exact hj
    rw [hg] at e
    exact ⟨a', rfl, by have := World.block_lt_of_cell? _ _ e; rwa [add_block] at this, e⟩
end Go.Proofs.YtfmanmidihofgaaDoor
