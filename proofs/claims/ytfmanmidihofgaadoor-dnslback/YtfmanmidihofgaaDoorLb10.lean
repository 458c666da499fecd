/- Arguments as they lie in memory: rows of rows of bytes. -/
import Derived.Test.YtfmanmidihofgaaDoorLb8
namespace Go.Proofs.YtfmanmidihofgaaDoor
open Go.ChangeShapes Go.WideShapes Go.ChangeAt Go.RowKit Go.Joins
/-- A row of rows of bytes lies in memory. -/
def BytessAt (w : World) (a : Option Addr) (L : List Bs) : Prop := ∀ (j : Nat) (l : Bs), L[j]? = some l → ∃ (ad : Addr) (p : Option Addr) (c : Nat), a = some ad ∧ ad.block < w.heap.size ∧ w.cell? (ad.add j) = some (.slice p l.length c) ∧ (l.length ≤ c ∧ (p = none → c = 0)) ∧ BytesAt w p l
theorem BytessAt.below {w w' : World} {a : Option Addr} {L : List Bs} (h : BytessAt w a L) (hb : Below w.heap.size w w') : BytessAt w' a L := fun j l hj => by
  obtain ⟨ad, p, c, e, hl, hc, h1, h2⟩ := h j l hj
  exact ⟨ad, p, c, e, Nat.lt_of_lt_of_le hl hb.size, (hb.cell (p := ad.add j) (by rw [add_block]; exact hl)).trans hc, h1, h2.below hb⟩
set_option maxRecDepth 100000 in
theorem bytes_trod {H : Type} {enc : TypeId × Value → H} {W : World} {base fuel : Nat} {held : Bool} {cs : List Value} {x : DataW H × List MemPlace}
    (hf : DataW.trod enc Tryd.prog W base (fun _ => true) held fuel 29 cs = some x) : ∃ (a : Option Addr) (l : Bs) (c : Nat), cs = [.slice a l.length c] ∧ (l.length ≤ c ∧ (a = none → c = 0)) ∧ BytesAt W a l := by
  rcases open_ints Tryd.underlying29 Tryd.underlying5 (by kernel_rfl) hf with ⟨hcs, _⟩ | ⟨a', n, c, zs, hcs, _, hl, hm, hz, _, hc, hw⟩
  · exact ⟨none, [], 0, hcs, ⟨Nat.le_refl _, fun _ => rfl⟩, fun j b hj => by simp at hj⟩
  · simp at hz
    have hlen : ((zs.take n).map (fun z => UInt8.ofNat z.toNat)).length = n := by simp; omega
    refine ⟨some a', (zs.take n).map (fun z => UInt8.ofNat z.toNat), c, by rw [hlen]; exact hcs, ⟨by rw [hlen]; exact hl, fun h => by cases h⟩, fun j b hj => ?_⟩
    have hjn : j < n := by have := (List.getElem?_eq_some_iff.1 hj).1; rw [hlen] at this; exact this
    have hj' : j < zs.length := by omega
    have e := hc j hj'
    have hb := u8_of (hw _ (List.getElem_mem hj'))
    have hg : zs.getD j 0 = zs[j]'hj' := by simp [List.getD, List.getElem?_eq_getElem hj']
    rw [hg] at e
    have hbb : b = UInt8.ofNat (zs[j]'hj').toNat := by
      rw [List.getElem?_map, List.getElem?_take_of_lt hjn, List.getElem?_eq_getElem hj'] at hj
      simpa using hj.symm
    refine ⟨a', rfl, by have := World.block_lt_of_cell? _ _ e; rwa [add_block] at this, ?_⟩
    rw [e, hbb]
    have : ((UInt8.ofNat (zs[j]'hj').toNat).toNat : Int) = zs[j]'hj' := by simp; omega
    rw [this]
set_option maxRecDepth 100000 in
theorem bytess_of {H : Type} {enc : TypeId × Value → H} {W : World} {b0 base : Nat} {held : Bool} {v : Value} {d : DataW H} {ps : List MemPlace}
    (hval : Value.okWide Tryd.prog W .any b0 40 v) (h : DataW.Trod enc Tryd.prog W base (fun _ => true) held 40 v d ps) : ∃ (a : Option Addr) (L : List Bs) (c : Nat), v = .slice a L.length c ∧ BytessAt W a L := by
  obtain ⟨a, n, c, rfl⟩ := okWide_slice Tryd.underlying40 hval
  obtain ⟨fuel, hf⟩ := h
  rcases DataW.trod_slice Tryd.underlying40 hf with ⟨hcs, _⟩ | ⟨a', len, cap, elems, rest, m, _, hcs, _, _, hl, _, hlen, hel, _⟩
  · simp [Value.cells] at hcs
    obtain ⟨rfl, rfl, rfl⟩ := hcs
    exact ⟨none, [], 0, rfl, fun j l hj => by simp at hj⟩
  · simp [Value.cells] at hcs
    obtain ⟨rfl, rfl, rfl⟩ := hcs
    have hone : Tryd.prog.cellsOf 29 = 1 := by kernel_rfl
    have each : ∀ i, i < n → ∃ (l : Bs) (p : Option Addr) (q : Nat), W.cell? (a'.add i) = some (.slice p l.length q) ∧ (l.length ≤ q ∧ (p = none → q = 0)) ∧ BytesAt W p l := fun i hi => by
      have h1 := hel i hi
      rw [hone, Nat.mul_one, List.getElem?_eq_getElem (by omega), Option.bind_eq_some_iff] at h1
      obtain ⟨cs', hcs, hy⟩ := h1
      obtain ⟨p, l, q, rfl, hq, hb⟩ := bytes_trod hy
      exact ⟨l, p, q, cell_of_cells?_one hcs, hq, hb⟩
    have all : ∀ k, k ≤ n → ∃ L : List Bs, L.length = k ∧ ∀ j l, L[j]? = some l → ∃ (p : Option Addr) (q : Nat), W.cell? (a'.add j) = some (.slice p l.length q) ∧ (l.length ≤ q ∧ (p = none → q = 0)) ∧ BytesAt W p l := by
      intro k
      induction k with
      | zero => exact fun _ => ⟨[], rfl, fun j l hj => by simp at hj⟩
      | succ k ih =>
        intro hk
        obtain ⟨L, hL, hr⟩ := ih (by omega)
        obtain ⟨l, p, q, h1, h2, h3⟩ := each k (by omega)
        refine ⟨L ++ [l], by simp [hL], fun j x hj => ?_⟩
        by_cases hjk : j < k
        · rw [List.getElem?_append_left (by omega)] at hj
          exact hr j x hj
        · have hj2 := (List.getElem?_eq_some_iff.1 hj).1
          simp at hj2
          obtain rfl : j = k := by omega
          rw [List.getElem?_append_right (by omega), hL] at hj
          simp at hj
          subst hj
          exact ⟨p, q, h1, h2, h3⟩
    obtain ⟨L, hL, hr⟩ := all n (Nat.le_refl _)
    refine ⟨some a', L, c, by rw [hL], fun j l hj => ?_⟩
    obtain ⟨p, q, h1, h2, h3⟩ := hr j l hj
    exact ⟨a', p, q, rfl, by have := World.block_lt_of_cell? _ _ h1; rwa [add_block] at this, h1, h2, h3⟩
end Go.Proofs.YtfmanmidihofgaaDoor
