/- How the checker tells an address, as plain mathematics: digit by digit, row of noughts, group by group; that it is what tellV tells. No program stands in this text. -/
import Derived.Test.YtehhhjkajabliaaDoorAm
namespace Go.Proofs.YtehhhjkajabliaaDoor

/-- Digits of a number that is not nought; nothing of nought. -/
def dd (m : Nat) : Bs := if m = 0 then [] else decS m
theorem dd_step : ∀ m, m < 256 → 0 < m → dd m = dd (m / 10) ++ [decC (m % 10)] := by decide +kernel
theorem dd_pos {m : Nat} (h : 0 < m) : dd m = decS m := if_neg (by omega)
def dh (m : Nat) : Bs := if m = 0 then [] else hexS m
theorem dh_pos {m : Nat} (h : 0 < m) : dh m = hexS m := if_neg (by omega)
theorem dh_step (m : Nat) (h : m < 65536) (h0 : 0 < m) : dh m = dh (m / 16) ++ [hexC (m % 16)] := by
  rw [dh_pos h0]
  by_cases c1 : m < 16
  · rw [show m / 16 = 0 by omega, show m % 16 = m by omega]
    simp [dh, hexS, c1]
  · rw [dh_pos (show 0 < m / 16 by omega)]
    by_cases c2 : m < 256
    · simp [hexS, c1, c2, show m / 16 < 16 by omega]
    · by_cases c3 : m < 4096
      · simp [hexS, c1, c2, c3, show ¬ m / 16 < 16 by omega, show m / 16 < 256 by omega, show m / 16 / 16 = m / 256 by omega]
      · simp [hexS, c1, c2, c3, show ¬ m / 16 < 16 by omega, show ¬ m / 16 < 256 by omega, show m / 16 < 4096 by omega, show m / 16 / 256 = m / 4096 by omega, show m / 16 / 16 = m / 256 by omega]
/-- How many noughts stand at the head. -/
def zrun : List Nat → Nat
  | [] => 0
  | g :: r => if g = 0 then zrun r + 1 else 0
theorem zrun_le : ∀ l : List Nat, zrun l ≤ l.length
  | [] => Nat.le_refl _
  | g :: r => by unfold zrun; split; have := zrun_le r; simp; omega; simp
/-- Where the longest row of noughts stands, behind the first n places. -/
def zst (gs : List Nat) : Nat → Int × Nat
  | 0 => (-1, 1)
  | n + 1 => if (zst gs n).2 < zrun (gs.drop n) then ((n : Int), zrun (gs.drop n)) else zst gs n
theorem zst_bounds (gs : List Nat) (h8 : gs.length = 8) : ∀ n, n ≤ 8 → -1 ≤ (zst gs n).1 ∧ (zst gs n).1 < n ∧ 1 ≤ (zst gs n).2 ∧ (zst gs n).2 ≤ 8
  | 0, _ => by simp [zst]
  | n + 1, hn => by
    have ih := zst_bounds gs h8 n (by omega)
    have hz := zrun_le (gs.drop n)
    rw [List.length_drop, h8] at hz
    unfold zst
    split
    · simp; omega
    · omega
/-- The same over what is nought and what is not. -/
def zrunB : List Bool → Nat
  | [] => 0
  | b :: r => if b then zrunB r + 1 else 0
def zstB (bs : List Bool) : Nat → Int × Nat
  | 0 => (-1, 1)
  | n + 1 => if (zstB bs n).2 < zrunB (bs.drop n) then ((n : Int), zrunB (bs.drop n)) else zstB bs n
def longestB : Nat → Nat → Nat → Nat → List Bool → Nat × Nat
  | _, _, f, t, [] => (f, t)
  | i, start, f, t, b :: r => if b = false then longestB (i + 1) (i + 1) f t r else if t - f < i + 1 - start then longestB (i + 1) start start (i + 1) r else longestB (i + 1) start f t r
def zmap (gs : List Nat) : List Bool := gs.map (fun g => decide (g = 0))
theorem zrun_map : ∀ gs : List Nat, zrun gs = zrunB (zmap gs)
  | [] => rfl
  | g :: r => by
    have ih := zrun_map r
    by_cases h : g = 0
    · simp [zrun, zmap, zrunB, h]; exact ih
    · simp [zrun, zmap, zrunB, h]
theorem zst_map (gs : List Nat) : ∀ n, zst gs n = zstB (zmap gs) n
  | 0 => rfl
  | n + 1 => by
    unfold zst zstB
    rw [zst_map gs n, zrun_map, show zmap (gs.drop n) = (zmap gs).drop n by simp [zmap, List.map_drop]]
theorem longest_map : ∀ (gs : List Nat) (i s f t : Nat), longest i s f t gs = longestB i s f t (zmap gs)
  | [], _, _, _, _ => rfl
  | g :: r, i, s, f, t => by
    have ih := longest_map r
    by_cases h : g = 0
    · simp [longest, longestB, zmap, h, ih]
    · simp [longest, longestB, zmap, h, ih]
theorem zst_8 : ∀ b0 b1 b2 b3 b4 b5 b6 b7 : Bool, (let bs := [b0, b1, b2, b3, b4, b5, b6, b7]
    ((longestB 0 0 0 0 bs).2 - (longestB 0 0 0 0 bs).1 < 2 ∧ (zstB bs 8).1 = -1) ∨ (¬ (longestB 0 0 0 0 bs).2 - (longestB 0 0 0 0 bs).1 < 2 ∧ (zstB bs 8).1 = ((longestB 0 0 0 0 bs).1 : Int) ∧ (longestB 0 0 0 0 bs).1 + (zstB bs 8).2 = (longestB 0 0 0 0 bs).2)) := by decide +kernel
theorem zst_longest (gs : List Nat) (h8 : gs.length = 8) :
    ((longest 0 0 0 0 gs).2 - (longest 0 0 0 0 gs).1 < 2 ∧ (zst gs 8).1 = -1) ∨ (¬ (longest 0 0 0 0 gs).2 - (longest 0 0 0 0 gs).1 < 2 ∧ (zst gs 8).1 = ((longest 0 0 0 0 gs).1 : Int) ∧ (longest 0 0 0 0 gs).1 + (zst gs 8).2 = (longest 0 0 0 0 gs).2) := by
  match gs, h8 with
  | [g0, g1, g2, g3, g4, g5, g6, g7], _ =>
    have := zst_8 (decide (g0 = 0)) (decide (g1 = 0)) (decide (g2 = 0)) (decide (g3 = 0)) (decide (g4 = 0)) (decide (g5 = 0)) (decide (g6 = 0)) (decide (g7 = 0))
    rw [longest_map, zst_map]
    exact this
/-- What is told behind the first i groups. -/
def told (gs : List Nat) (a : Int) (L i : Nat) : Bs :=
  if a < 0 ∨ (i : Int) ≤ a then tellGroups (gs.take i) else tellGroups (gs.take a.toNat) ++ ([58, 58] ++ tellGroups ((gs.drop (a.toNat + L)).take (i - (a.toNat + L))))
/-- A colon, if there is something that does not end in one. -/
def stepS (s : Bs) : Bs := if s = [] then s else if s.getLast? = some 58 then s else s ++ [58]
theorem tellGroups_snoc (M : List Nat) (g : Nat) (h : M ≠ []) : tellGroups (M ++ [g]) = tellGroups M ++ 58 :: hexS g := by
  unfold tellGroups
  match M, h with
  | m :: M, _ =>
    rw [List.map_append, List.map_cons, List.cons_append, Lib.join_cons, Lib.join_cons]
    simp [Lib.joinTail]
theorem tellGroups_one (g : Nat) : tellGroups [g] = hexS g := Lib.join_one _ _
theorem hexS_last (g : Nat) (h : g < 65536) : (hexS g).getLast? ≠ some 58 := by
  intro e
  have := List.mem_of_getLast? e
  exact (hexS_mem g h _ this).1 rfl
theorem tellGroups_last : ∀ (M : List Nat), (∀ g ∈ M, g < 65536) → (tellGroups M).getLast? ≠ some 58 := by
  intro M hM
  rcases List.eq_nil_or_concat M with rfl | ⟨M', g, rfl⟩
  · simp [tellGroups, Lib.join_nil]
  · have hg := hM g (by simp)
    by_cases h : M' = []
    · subst h; simp only [List.concat_eq_append, List.nil_append]; rw [tellGroups_one]; exact hexS_last g hg
    · rw [List.concat_eq_append, tellGroups_snoc M' g h, List.getLast?_append]
      have : (58 :: hexS g).getLast? = (hexS g).getLast? := by
        have hne := hexS_ne g
        cases hh : hexS g with
        | nil => exact absurd hh hne
        | cons c r => rfl
      rw [this]
      cases hl : (hexS g).getLast? with
      | none => rw [List.getLast?_eq_none_iff] at hl; exact absurd hl (hexS_ne g)
      | some c => intro e; exact hexS_last g hg (by rw [hl]; simpa using e)
theorem stepS_groups (M : List Nat) (g : Nat) (hM : ∀ g ∈ M, g < 65536) : stepS (tellGroups M) ++ hexS g = tellGroups (M ++ [g]) := by
  by_cases h : M = []
  · subst h; simp only [List.nil_append]; rw [tellGroups_one]; rfl
  · rw [tellGroups_snoc M g h]
    unfold stepS
    rw [if_neg (tellGroups_ne h), if_neg (tellGroups_last M hM)]
    simp
theorem stepS_behind (A : Bs) (M : List Nat) (g : Nat) (hM : ∀ g ∈ M, g < 65536) : stepS (A ++ ([58, 58] ++ tellGroups M)) ++ hexS g = A ++ ([58, 58] ++ tellGroups (M ++ [g])) := by
  have hne : A ++ ([58, 58] ++ tellGroups M) ≠ [] := by simp
  by_cases h : M = []
  · subst h
    unfold stepS
    rw [if_neg hne, if_pos (by simp [tellGroups, Lib.join_nil])]
    simp [tellGroups, Lib.join_nil, Lib.join_one]
  · have hl : (A ++ ([58, 58] ++ tellGroups M)).getLast? = (tellGroups M).getLast? := by
      rw [List.getLast?_append, List.getLast?_append]
      cases e : (tellGroups M).getLast? with
      | none => rw [List.getLast?_eq_none_iff] at e; exact absurd e (tellGroups_ne h)
      | some c => rfl
    unfold stepS
    rw [if_neg hne, if_neg (by rw [hl]; exact tellGroups_last M hM), tellGroups_snoc M g h]
    simp
theorem told_step (gs : List Nat) (a : Int) (L i : Nat) (h8 : gs.length = 8) (hg : ∀ g ∈ gs, g < 65536) (hi : i < 8) (hne : (i : Int) ≠ a) (hout : (i : Int) < a ∨ a < 0 ∨ a.toNat + L ≤ i) :
    stepS (told gs a L i) ++ hexS (gs.getD i 0) = told gs a L (i + 1) := by
  have hget : gs.getD i 0 = gs[i]'(by omega) := by simp [List.getD, List.getElem?_eq_getElem (show i < gs.length by omega)]
  rw [hget]
  unfold told
  by_cases hb : a < 0 ∨ (i : Int) ≤ a
  · rw [if_pos hb, if_pos (by omega), stepS_groups _ _ (fun g h => hg g (List.mem_of_mem_take h)), List.take_succ_eq_append_getElem (by omega)]
  · rw [if_neg hb, if_neg (by omega), stepS_behind _ _ _ (fun g h => hg g (List.mem_of_mem_drop (List.mem_of_mem_take h)))]
    have hk : a.toNat + L ≤ i := by omega
    congr 3
    rw [show i + 1 - (a.toNat + L) = (i - (a.toNat + L)) + 1 by omega, List.take_succ_eq_append_getElem (by simp; omega)]
    congr 2
    rw [List.getElem_drop]
    congr 1
    omega
theorem told_jump (gs : List Nat) (a : Nat) (L : Nat) (hL : 1 ≤ L) : told gs a L a ++ [58, 58] = told gs a L (a + L) := by
  unfold told
  rw [if_pos (by omega), if_neg (by omega)]
  simp [tellGroups, Lib.join_nil]
theorem told_start (gs : List Nat) (a : Int) (L : Nat) : told gs a L 0 = [] := by
  unfold told
  rw [if_pos (by omega)]
  simp [tellGroups, Lib.join_nil]
theorem told_end (gs : List Nat) (h8 : gs.length = 8) : told gs (zst gs 8).1 (zst gs 8).2 8 = tellSix gs := by
  have hl := longest_all gs
  rcases zst_longest gs h8 with ⟨h1, h2⟩ | ⟨h1, h2, h3⟩
  · unfold told tellSix
    rw [h2, if_pos (by omega), if_pos h1, List.take_of_length_le (by omega)]
  · unfold told tellSix
    rw [h2, if_neg h1, if_neg (by omega), Int.toNat_natCast, h3, List.take_of_length_le (l := gs.drop (longest 0 0 0 0 gs).2) (by rw [List.length_drop]; omega)]
theorem told_len (gs : List Nat) (a : Int) (L i : Nat) (h8 : gs.length = 8) : (told gs a L i).length ≤ 100 := by
  unfold told
  split
  · have := tellGroups_len (gs.take i); simp at this; omega
  · have a1 := tellGroups_len (gs.take a.toNat)
    have a2 := tellGroups_len ((gs.drop (a.toNat + L)).take (i - (a.toNat + L)))
    simp at a1 a2 ⊢
    omega
theorem tellFour_eq (x : Nat) : tellFour x = decS (x / 16777216 % 256) ++ [46] ++ decS (x / 65536 % 256) ++ [46] ++ decS (x / 256 % 256) ++ [46] ++ decS (x % 256) := by
  unfold tellFour; rw [Lib.join_cons]; simp [Lib.joinTail]
end Go.Proofs.YtehhhjkajabliaaDoor
