/- Arguments as they lie in memory: rows of bytes. -/
import Derived.Test.YtfmanmidihofgaaDoorLaw
import Derived.Test.YtfmanmidihofgaaDoorBas
namespace Go.Proofs.YtfmanmidihofgaaDoor
open Go.ChangeShapes Go.WideShapes Go.ChangeAt Go.RowKit Go.Joins
theorem u8_of {n : Int} (h : (Lit.int .u8 n).wf = true) : 0 ≤ n ∧ n < 256 := by
  have := bounds_u8 h
  omega
set_option maxRecDepth 100000 in
theorem bytes_of {H : Type} {enc : TypeId × Value → H} {W : World} {b0 base : Nat} {held : Bool} {v : Value} {d : DataW H} {ps : List MemPlace}
    (hval : Value.okWide Tryd.prog W .any b0 29 v) (h : DataW.Trod enc Tryd.prog W base (fun _ => true) held 29 v d ps) : ∃ (a : Option Addr) (l : Bs) (c : Nat), v = .slice a l.length c ∧ l.length ≤ c ∧ BytesAt W a l := by
  obtain ⟨a, n, c, rfl⟩ := okWide_slice Tryd.underlying29 hval
  obtain ⟨fuel, hf⟩ := h
  rcases open_ints Tryd.underlying29 Tryd.underlying5 (by kernel_rfl) hf with ⟨hcs, _⟩ | ⟨a', len, cap, zs, hcs, _, hl, hm, hz, _, hc, hw⟩
  · simp [Value.cells] at hcs
    obtain ⟨rfl, rfl, rfl⟩ := hcs
    exact ⟨none, [], 0, rfl, Nat.le_refl _, fun j b hj => by simp at hj⟩
  · simp [Value.cells] at hcs
    obtain ⟨rfl, rfl, rfl⟩ := hcs
    simp at hz
    have hlen : ((zs.take n).map (fun z => UInt8.ofNat z.toNat)).length = n := by simp; omega
    refine ⟨some a', (zs.take n).map (fun z => UInt8.ofNat z.toNat), c, by rw [hlen], by rw [hlen]; exact hl, fun j b hj => ?_⟩
    have hjn : j < n := by have := (List.getElem?_eq_some_iff.1 hj).1; rw [hlen] at this; exact this
    have hj' : j < zs.length := by omega
    have e := hc j hj'
    have hb := u8_of (hw _ (List.getElem_mem hj'))
    have hg : zs.getD j 0 = zs[j]'hj' := by simp [List.getD, List.getElem?_eq_getElem hj']
    rw [hg] at e
    have hbb : b = UInt8.ofNat (zs[j]'hj').toNat := by
      rw [List.getElem?_map, List.getElem?_take_of_lt hjn, List.getElem?_eq_getElem hj'] at hj
      simpa using hj.symm
    refine ⟨a', rfl, by have := World.block_lt_of_cell? _ _ e; rwa [add_block] at this, ?_⟩
    rw [e, hbb]
    have : ((UInt8.ofNat (zs[j]'hj').toNat).toNat : Int) = zs[j]'hj' := by simp; omega
    rw [this]
end Go.Proofs.YtfmanmidihofgaaDoor
