/- The values that the laws make of numbers (chapter 11), as mathematics. -/
import Derived.Test.YtgiihljiekagdaaDoorJe
namespace Go.Proofs.YtgiihljiekagdaaDoor
def texts11 : List Bs := [[], [97], [98], [195, 169], [34, 92], [10, 9], [1], [240, 159, 152, 128], [108, 111, 110, 103, 32, 110, 97, 109, 101]]
def kindT (n : Int) : Nat := (n % 8).toNat % 7 + 1
def numT (n : Int) : Int := n / 8 * (1 - n / 2 ^ 20 % 2 * 2)
def textT (n : Int) : Bs := texts11.getD ((n / 8 % 256).toNat % 9) []
def cntT (n : Int) : Nat := (n / 8 % 4).toNat
def keyT (n : Int) (i : Nat) : Bs := texts11.getD i [] ++ texts11.getD ((n / 32 % 256).toNat % 9) []
def kidsT (f : List Int → Js × List Int) : Nat → List Int → List Js × List Int
  | 0, l => ([], l)
  | c + 1, l => ((f l).1 :: (kidsT f c (f l).2).1, (kidsT f c (f l).2).2)
/-- A value of numbers, and the numbers that are left; the first argument: in how many more it may be. -/
def treeT : Nat → List Int → Js × List Int
  | _, [] => (.mk 1 0 [] [] [] 0, [])
  | room, n :: l =>
    if kindT n = 4 then (.mk 4 (numT n) [] [] [] 0, l)
    else if kindT n = 5 then (.mk 5 0 (textT n) [] [] 0, l)
    else if kindT n = 6 ∨ kindT n = 7 then
      (match room with
        | 0 => (.mk (kindT n) 0 [] [] [] 0, l)
        | q + 1 => (.mk (kindT n) 0 [] (kidsT (treeT q) (cntT n) l).1 (if kindT n = 7 then (List.range (cntT n)).map (keyT n) else []) 0, (kidsT (treeT q) (cntT n) l).2))
    else (.mk (kindT n) 0 [] [] [] 0, l)
theorem cntT_le (n : Int) : cntT n ≤ 3 := by unfold cntT; omega
theorem kids_len (f : List Int → Js × List Int) : ∀ (c : Nat) (l : List Int), (kidsT f c l).1.length = c
  | 0, _ => rfl
  | c + 1, l => by simp [kidsT, kids_len f c]
theorem kids_all {f : List Int → Js × List Int} {P : Js → Prop} (h : ∀ l, P (f l).1) : ∀ (c : Nat) (l : List Int), ∀ v ∈ (kidsT f c l).1, P v
  | 0, _, v, hv => by simp [kidsT] at hv
  | c + 1, l, v, hv => by
    simp only [kidsT, List.mem_cons] at hv
    rcases hv with rfl | hv
    · exact h l
    · exact kids_all h c _ v hv
theorem keysT_nodup (n : Int) (c : Nat) (h : c ≤ 3) : ((List.range c).map (keyT n)).Nodup := by
  have e3 : ((List.range 3).map (keyT n)).Nodup := by
    have : (List.range 3).map (keyT n) = [keyT n 0, keyT n 1, keyT n 2] := rfl
    rw [this]
    simp [keyT, texts11]
  have : (List.range c).map (keyT n) = ((List.range 3).map (keyT n)).take c := by
    rw [← List.map_take, List.take_range, Nat.min_eq_left h]
  rw [this]
  exact e3.sublist (List.take_sublist _ _)
/-- Values of numbers are as they must be. -/
theorem tree_ok : ∀ (room : Nat) (l : List Int), okJ (room + 1) (treeT room l).1
  | room, [] => by
    unfold treeT
    exact ⟨fun v hv => by simp at hv, rfl, List.nodup_nil⟩
  | room, n :: l => by
    unfold treeT
    split
    · exact ⟨fun v hv => by simp at hv, rfl, List.nodup_nil⟩
    · split
      · exact ⟨fun v hv => by simp at hv, rfl, List.nodup_nil⟩
      · split
        · cases room with
          | zero => exact ⟨fun v hv => by simp at hv, by simp, List.nodup_nil⟩
          | succ q =>
            refine ⟨kids_all (fun l => tree_ok q l) _ _, ?_, ?_⟩
            · split <;> simp [kids_len]
            · split
              · exact keysT_nodup n _ (cntT_le n)
              · exact List.nodup_nil
        · exact ⟨fun v hv => by simp at hv, by simp, List.nodup_nil⟩
/-- Another text. -/
def otherT : Bs := [115, 111, 109, 101, 32, 111, 116, 104, 101, 114, 32, 116, 101, 120, 116]
theorem text_other (n : Int) : textT n ≠ otherT := by
  have : ∀ k, k < 9 → texts11.getD k [] ≠ otherT := by decide
  exact this _ (by omega)
theorem tree_text : ∀ (room : Nat) (l : List Int), (treeT room l).1.text ≠ otherT
  | room, [] => by unfold treeT; simp [Js.text, otherT]
  | room, n :: l => by
    unfold treeT
    split
    · simp [Js.text, otherT]
    · split
      · simpa [Js.text] using text_other n
      · split
        · cases room <;> simp [Js.text, otherT]
        · simp [Js.text, otherT]
theorem same_other {n : Nat} {a : Js} (h : a.text ≠ otherT) : sameV n a (.mk 5 0 otherT [] [] 0) = false := by
  cases n with
  | zero => rfl
  | succ n =>
    obtain ⟨k, x, t, l, q, p⟩ := a
    simp only [Js.text] at h
    simp [sameV, h]
end Go.Proofs.YtgiihljiekagdaaDoor
