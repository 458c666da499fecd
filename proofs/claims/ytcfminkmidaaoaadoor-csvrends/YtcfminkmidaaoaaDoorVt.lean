/- Package csvr: a field as it is told. -/
import Derived.Test.YtcfminkmidaaoaaDoorVl
namespace Go.Proofs.YtcfminkmidaaoaaDoor
open Go.ChangeShapes Go.WideShapes Go.RowKit Go.Sort
/-- The library's variable that a text put together anew asks. -/
def Gl (w : World) : Prop := ∃ m : Int, w.cell? ⟨1, 0, none⟩ = some (.int .i64 m)
theorem Gl.below {w w' : World} (h : Gl w) (hb : Below w.heap.size w w') : Gl w' := by
  obtain ⟨m, hm⟩ := h
  exact ⟨m, (olds hb _ _ (World.block_lt_of_cell? _ _ hm)).trans hm⟩
theorem repl_ne (new : Bs) {c : UInt8} (hc : c ≠ 34) (r : Bs) (k : Nat) : Lib.replaceK [34] new k (c :: r) = c :: Lib.replaceK [34] new k r := by
  have step : Lib.index (c :: r) [34] = if Lib.index r [34] == -1 then -1 else Lib.index r [34] + 1 := by
    show (if List.isPrefixOf [34] (c :: r) then (0 : Int) else if Lib.index r [34] == -1 then -1 else Lib.index r [34] + 1) = _
    rw [if_neg (by simp [List.isPrefixOf]; exact fun e => hc e.symm)]
  have hge := Lib.index_ge r [34]
  cases k with
  | zero => rfl
  | succ k =>
    by_cases hz : Lib.index r [34] = -1
    · unfold Lib.replaceK
      rw [step, hz]; rfl
    · obtain ⟨i, hi⟩ : ∃ i : Nat, Lib.index r [34] = i := ⟨(Lib.index r [34]).toNat, by omega⟩
      have h1 : Lib.index (c :: r) [34] = ((i + 1 : Nat) : Int) := by rw [step, if_neg (by simpa using hz), hi]; rfl
      rw [Lib.replaceK_hit _ _ _ _ _ h1, Lib.replaceK_hit _ _ _ _ _ hi]
      simp
theorem repl_eq (new r : Bs) (k : Nat) : Lib.replaceK [34] new (k + 1) (34 :: r) = new ++ Lib.replaceK [34] new k r := by
  have h1 : Lib.index (34 :: r) [34] = ((0 : Nat) : Int) := by
    show (if List.isPrefixOf [34] (34 :: r) then (0 : Int) else if Lib.index r [34] == -1 then -1 else Lib.index r [34] + 1) = _
    rw [if_pos (by simp [List.isPrefixOf])]; rfl
  rw [Lib.replaceK_hit _ _ _ _ _ h1]
  simp
theorem repl_dbl : ∀ s : Bs, Lib.replaceK [34] [34, 34] (s.count 34) s = dblQ s
  | [] => rfl
  | c :: r => by
    have ih := repl_dbl r
    by_cases hc : c = 34
    · subst hc
      rw [List.count_cons_self, repl_eq, ih]; simp [dblQ, dblU]
    · rw [List.count_cons_of_ne hc, repl_ne _ hc, ih]; simp [dblQ, dblU, hc]
theorem replaceAll_dbl (s : Bs) : Lib.replaceAll s [34] [34, 34] = dblQ s := by
  unfold Lib.replaceAll Lib.replace
  rw [if_neg (by decide)]
  unfold Lib.replaceNum
  rw [if_pos (Or.inl (by decide)), Lib.count_one, repl_dbl]
theorem dblQ_len (s : Bs) : (dblQ s).length ≤ 2 * s.length := by
  induction s with
  | nil => simp [dblQ]
  | cons c r ih =>
    have : dblQ (c :: r) = dblU c ++ dblQ r := by simp [dblQ]
    rw [this, List.length_append, List.length_cons]
    have : (dblU c).length ≤ 2 := by unfold dblU; split <;> simp
    omega
theorem fieldP_len (al : Bool) (s : Bs) : (fieldP al s).length ≤ 2 * s.length + 2 := by
  unfold fieldP
  have := dblQ_len s
  split
  · simp; omega
  · omega
set_option maxHeartbeats 4000000 in
set_option maxRecDepth 100000 in
theorem fieldTold_x (s : Bs) (al : Bool) (w : World) (hg : Gl w) (hs : s.length ≤ 1000) :
    Calls Tryd.prog 22 #[.string (baS s), .bool al] w fun e w' => e = .returned (.string (baS (fieldP al s))) ∧ Below w.heap.size w w' := by
  have HC := Lib.hid (containsAny_x s w (by omega))
  have hd := dblQ_len s
  have HR : Hid (∀ V, Gl V → Calls Tryd.prog 30 #[.string (baS s), .string ⟨#[34]⟩, .string ⟨#[34, 34]⟩] V fun e w' => e = .returned (.string (baS (dblQ s))) ∧ Below V.heap.size V w') := fun V hV => by
    obtain ⟨m, hm⟩ := hV
    have hcnt : Lib.countB (baS s) ⟨#[34]⟩ ≤ s.length := by
      have : Lib.countB (baS s) ⟨#[34]⟩ = s.count 34 := Lib.count_one 34 s
      rw [this]; exact List.count_le_length
    refine (Tryd.strings_ReplaceAll (baS s) ⟨#[34]⟩ ⟨#[34, 34]⟩ m V (by rw [baS_size]; omega) hm (by decide) (by rw [baS_size]; show s.length + Lib.countB (baS s) ⟨#[34]⟩ * 2 ≤ _; omega)).mono fun e w' ⟨h1, h2⟩ => ⟨?_, h2⟩
    have e2 : Lib.replaceAll (baS s).data.toList (⟨#[34]⟩ : ByteArray).data.toList (⟨#[34, 34]⟩ : ByteArray).data.toList = dblQ s := replaceAll_dbl s
    rw [e2] at h1
    exact h1
  have hadd1 : ∀ V, (Op.stringOp .add ⟨#[34]⟩ (baS (dblQ s))).run Tryd.prog V = .ok (.string (baS (34 :: dblQ s))) V := fun V => addS [34] (dblQ s) (by decide) (by omega) V
  have hadd2 : ∀ V, (Op.stringOp .add (baS (34 :: dblQ s)) ⟨#[34]⟩).run Tryd.prog V = .ok (.string (baS (34 :: (dblQ s ++ [34])))) V := fun V => addS (34 :: dblQ s) [34] (by simp; omega) (by decide) V
  by_cases hn : s.any markB = true
  · have HF : Hid (fieldP al s = 34 :: (dblQ s ++ [34])) := Lib.hid (by unfold fieldP needB; rw [hn, Bool.or_true, if_pos rfl])
    rw [HF.out]
    rw [hn] at HC
    clear hd hn
    generalize baS (34 :: (dblQ s ++ [34])) = X2 at *
    generalize baS (34 :: dblQ s) = X1 at *
    generalize baS (dblQ s) = X0 at *
    generalize baS s = S at *
    go_enter Tryd.func22, Tryd.ntmps22
    go_wp2_with fail
    refine HC.out.mono ?_
    rintro e w1 ⟨rfl, hb1⟩
    go_wp2_with fail
    refine (HR.out _ (hg.below hb1)).mono ?_
    rintro e w2 ⟨rfl, hb2⟩
    go_wp2
    go_ret
    exact ⟨rfl, below_next hb1 hb2⟩
  · have hn' : s.any markB = false := by simpa using hn
    rw [hn'] at HC
    by_cases he : s = []
    · subst he
      cases al with
      | true =>
        clear hn hn' hd
        have HR2 : Hid (∀ V, Gl V → Calls Tryd.prog 30 #[.string ⟨#[]⟩, .string ⟨#[34]⟩, .string ⟨#[34, 34]⟩] V fun e w' => e = .returned (.string (baS (dblQ []))) ∧ Below V.heap.size V w') := HR
        have HC2 : Hid (Calls Tryd.prog 29 #[.string ⟨#[]⟩, .string ⟨#[34, 44, 13, 10]⟩] w fun e w' => e = .returned (.bool false) ∧ Below w.heap.size w w') := HC
        clear HR HC
        show Calls _ _ #[.string ⟨#[]⟩, .bool true] _ _
        go_enter Tryd.func22, Tryd.ntmps22
        go_wp2_with fail
        refine HC2.out.mono ?_
        rintro e w1 ⟨rfl, hb1⟩
        go_wp2_with fail
        refine (HR2.out _ (hg.below hb1)).mono ?_
        rintro e w2 ⟨rfl, hb2⟩
        go_wp2
        go_ret
        exact ⟨rfl, below_next hb1 hb2⟩
      | false =>
        clear hn hn' hd HR hadd1 hadd2
        have HC2 : Hid (Calls Tryd.prog 29 #[.string ⟨#[]⟩, .string ⟨#[34, 44, 13, 10]⟩] w fun e w' => e = .returned (.bool false) ∧ Below w.heap.size w w') := HC
        clear HC
        show Calls _ _ #[.string ⟨#[]⟩, .bool false] _ _
        go_enter Tryd.func22, Tryd.ntmps22
        go_wp2_with fail
        refine HC2.out.mono ?_
        rintro e w1 ⟨rfl, hb1⟩
        go_wp2
        go_ret
        exact ⟨rfl, hb1⟩
    · have HF : Hid (fieldP al s = s) := Lib.hid (by
        unfold fieldP needB
        rw [hn', show s.isEmpty = false by simpa using he]
        rfl)
      rw [HF.out]
      have hne := ne_listR he
      clear hn hn' hd HR hadd1 hadd2 he
      generalize baS s = S at *
      cases al with
      | true =>
        go_enter Tryd.func22, Tryd.ntmps22
        go_wp2_with fail
        refine HC.out.mono ?_
        rintro e w1 ⟨rfl, hb1⟩
        go_wp2
        go_ret
        exact ⟨rfl, hb1⟩
      | false =>
        go_enter Tryd.func22, Tryd.ntmps22
        go_wp2_with fail
        refine HC.out.mono ?_
        rintro e w1 ⟨rfl, hb1⟩
        go_wp2
        go_ret
        exact ⟨rfl, hb1⟩
end Go.Proofs.YtcfminkmidaaoaaDoor
