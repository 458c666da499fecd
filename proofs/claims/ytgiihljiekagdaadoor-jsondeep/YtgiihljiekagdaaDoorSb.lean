/- Bytes in memory: pieces of a row of bytes; the library's Count, LastIndexByte, Index, Cut, TrimSuffix at one byte. -/
import Derived.Test.YtgiihljiekagdaaDoorBas
import Derived.Test.YtgiihljiekagdaaDoorSm
namespace Go.Proofs.YtgiihljiekagdaaDoor
open Go.ChangeShapes Go.WideShapes Go.RowKit Go.Sort

/-- The address of 's[k:]'. -/
def adv (a : Option Addr) (c k : Nat) : Option Addr := if c = k then a else a.map (·.add k)
theorem u8size (w : World) : (Go.sizeOf (Tryd.prog.elem 29)).run Tryd.prog w = .ok 1 w := by kernel_rfl
theorem under8 : Tryd.prog.underlying 29 = some (.slice (Tryd.prog.elem 29)) := by kernel_rfl
theorem sl_h (a : Option Addr) (n c k : Nat) (hk : k ≤ c) (V : World) : (Instr.slice 29 (.slice a n c) none (some (.int .i64 (k : Int))) none).run Tryd.prog V = .ok (.slice a k c) V := by
  rw [run_slice_h V 29 a n c under8 .i64 k (by omega) (by omega), u8size]
  simp only [Result.andThen, sliced, Nat.zero_mul, Int.toNat_natCast]
  congr 1
  cases a with
  | none => simp
  | some p => simp [Addr.add]
theorem sl_l (a : Option Addr) (n c k : Nat) (hk : k ≤ n) (V : World) : (Instr.slice 29 (.slice a n c) (some (.int .i64 (k : Int))) none none).run Tryd.prog V = .ok (.slice (adv a c k) (n - k) (c - k)) V := by
  rw [run_slice_l V 29 a n c under8 .i64 k (by omega) (by omega), u8size]
  simp only [Result.andThen, sliced, Int.toNat_natCast, Nat.mul_one, adv]
theorem sl_lh (a : Option Addr) (n c f k : Nat) (h1 : f ≤ k) (hk : k ≤ c) (V : World) : (Instr.slice 29 (.slice a n c) (some (.int .i64 (f : Int))) (some (.int .i64 (k : Int))) none).run Tryd.prog V = .ok (.slice (adv a c f) (k - f) (c - f)) V := by
  rw [run_slice_lh V 29 a n c under8 .i64 .i64 f k (by omega) (by omega) (by omega), u8size]
  simp only [Result.andThen, sliced, Int.toNat_natCast, Nat.mul_one, adv]
theorem BytesAt.take {w : World} {a : Option Addr} {l : Bs} (h : BytesAt w a l) (k : Nat) : BytesAt w a (l.take k) := fun j b hj => by
  rw [List.getElem?_take] at hj
  split at hj
  · exact h j b hj
  · cases hj
theorem add_add (p : Addr) (k j : Nat) : (p.add k).add j = p.add (k + j) := by
  unfold Addr.add
  by_cases hk : k = 0
  · subst hk; simp
  · by_cases hj : j = 0
    · subst hj; simp [hk]
    · simp [hk, hj]; omega
theorem BytesAt.drop {w : World} {a : Option Addr} {l : Bs} (h : BytesAt w a l) (c k : Nat) (hc : l.length ≤ c) : BytesAt w (adv a c k) (l.drop k) := fun j b hj => by
  rw [List.getElem?_drop] at hj
  have hlt : k + j < l.length := (List.getElem?_eq_some_iff.1 hj).1
  obtain ⟨ad, rfl, hb, e⟩ := h _ b hj
  refine ⟨ad.add k, by simp [adv]; omega, by rw [add_block]; exact hb, ?_⟩
  rw [add_add]; exact e
def numsOf (l : Bs) : List Int := l.map fun b => (b.toNat : Int)
theorem numsOf_back (l : Bs) : Lib.bytesOf (numsOf l) = l := by
  unfold Lib.bytesOf numsOf
  rw [List.map_map]
  have : (fun n : Int => UInt8.ofNat n.toNat) ∘ (fun b : UInt8 => (b.toNat : Int)) = id := by funext b; simp
  rw [this]; simp
theorem load_x {w : World} {ad : Addr} {l : Bs} (h : BytesAt w (some ad) l) : (Extern.Bytes.loadBytes ad l.length .empty).run Tryd.prog w = .ok (baS l) w := by
  have hl := Lib.run_loadBytesX (P := Tryd.prog) w (numsOf l) ad .empty (fun j x hj => by
    unfold numsOf at hj
    rw [List.getElem?_map] at hj
    cases hx : l[j]? with
    | none => rw [hx] at hj; cases hj
    | some b =>
      rw [hx] at hj
      obtain ⟨ad', e, _, hc⟩ := h j b hx
      cases e
      simp at hj
      rw [hc, ← hj])
  rw [numsOf_back, show (numsOf l).length = l.length by simp [numsOf]] at hl
  rw [hl]
  congr 1
  apply ByteArray.ext
  show (#[] : Array UInt8) ++ l.toArray = l.toArray
  simp
theorem bytes_x {w : World} {a : Option Addr} {l : Bs} (h : BytesAt w a l) (c : Nat) : (Extern.Bytes.bytesOf (.slice a l.length c)).run Tryd.prog w = .ok (baS l) w := by
  cases a with
  | none =>
    have hl : l = [] := by
      cases l with
      | nil => rfl
      | cons a r => obtain ⟨ad, e, _⟩ := h 0 a rfl; cases e
    subst hl
    rfl
  | some ad => exact load_x h
theorem run_cnt {w : World} {a : Option Addr} {l : Bs} (h : BytesAt w a l) (c : Nat) : (Extern.BytealgCount.count #[.slice a l.length c, .int .u8 10]).run Tryd.prog w = .ok (.int .i64 (lfs l)) w := by
  have hs := Lib.run_countString (P := Tryd.prog) (baS l) 10 w
  have hb := bytes_x h c
  change Sem.run Tryd.prog (do
    let b ← Extern.Bytes.bytesOf (.slice a l.length c)
    let c' ← Extern.Bytes.asByte (.int .u8 10)
    pure (goInt (b.foldl (fun n x => if x == c' then n + 1 else n) (0 : Nat)))) w = _
  change Sem.run Tryd.prog (do
    let b ← Extern.Bytes.bytesOf (.string (baS l))
    let c' ← Extern.Bytes.asByte (.int .u8 10)
    pure (goInt (b.foldl (fun n x => if x == c' then n + 1 else n) (0 : Nat)))) w = _ at hs
  rw [Sem.run_bind, hb]
  simp only [Extern.Bytes.bytesOf, Sem.run_bind, Sem.run_pure, Result.andThen] at hs ⊢
  rw [hs]
  rfl
theorem run_idx {w : World} {a : Option Addr} {l : Bs} (h : BytesAt w a l) (c : Nat) : (Extern.BytealgIndexByte.indexByte #[.slice a l.length c, .int .u8 10]).run Tryd.prog w = .ok (.int .i64 (Lib.indexByte l 10)) w := by
  have hs := Lib.run_indexByteString (P := Tryd.prog) (baS l) 10 w
  have hb := bytes_x h c
  change Sem.run Tryd.prog (do
    let b ← Extern.Bytes.bytesOf (.slice a l.length c)
    let c ← Extern.Bytes.asByte (.int .u8 10)
    match (List.range b.size).find? fun i => b[i]! == c with
    | some i => pure (goInt i)
    | none => pure (goInt (-1))) w = _
  change Sem.run Tryd.prog (do
    let b ← Extern.Bytes.bytesOf (.string (baS l))
    let c ← Extern.Bytes.asByte (.int .u8 10)
    match (List.range b.size).find? fun i => b[i]! == c with
    | some i => pure (goInt i)
    | none => pure (goInt (-1))) w = _ at hs
  rw [Sem.run_bind, hb]
  simp only [Extern.Bytes.bytesOf, Sem.run_bind, Sem.run_pure, Result.andThen] at hs ⊢
  exact hs
set_option maxHeartbeats 2000000 in
set_option maxRecDepth 100000 in
theorem bindex_x (l : Bs) (a : Option Addr) (c g : Nat) (w : World) (h : BytesAt w a l) (hs : w.cell? ⟨g, 0, none⟩ = some (.int .u8 10)) :
    Calls Tryd.prog 42 #[.slice a l.length c, .slice (some ⟨g, 0, none⟩) 1 1] w fun e w' => e = .returned (.int .i64 (Lib.indexByte l 10)) ∧ w' = w := by
  have HH := Lib.hid h
  clear h
  have H2 : Calls Tryd.prog 56 #[.slice a l.length c, .int .u8 10] w fun e w' => e = .returned (.int .i64 (Lib.indexByte l 10)) ∧ w' = w := by
    go_enter Tryd.func56, Tryd.ntmps56
    go_wp2
    rw [run_callFunc_extern Tryd.func68 (by kernel_rfl) (by kernel_rfl) (by kernel_rfl) (e := Extern.BytealgIndexByte.indexByte) (by kernel_rfl), run_idx HH.out]
    simp only [Result.andThen]
    rw [Oper.upon_value]
    go_wp2
    go_ret
    exact ⟨rfl, rfl⟩
  have H3 := Lib.hid H2
  clear H2
  go_enter Tryd.func42, Tryd.ntmps42
  go_wp2_with fail
  refine H3.out.mono ?_
  rintro e w' ⟨rfl, rfl⟩
  go_wp2
  go_ret
  exact ⟨rfl, rfl⟩
end Go.Proofs.YtgiihljiekagdaaDoor
