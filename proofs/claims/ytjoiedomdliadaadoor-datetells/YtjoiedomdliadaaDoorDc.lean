/- date.readForm, parseClock, parseDay, Parse: which texts are a second, and which one. -/
import Derived.Test.YtjoiedomdliadaaDoorDb
import Derived.BigRegion
import Derived.Laws.ResultCell
namespace Go.Proofs.YtjoiedomdliadaaDoor
open Go.ChangeShapes Go.WideShapes Go.RowKit Go.Sort

/-- Three numbers lie in block H. -/
def Tri (w : World) (H a b c : Nat) : Prop := w.cell? ⟨H, 0, none⟩ = some (.int .u64 a) ∧ w.cell? ⟨H, 1, none⟩ = some (.int .u64 b) ∧ w.cell? ⟨H, 2, none⟩ = some (.int .u64 c) ∧ (∀ o, w.frozen? ⟨H, o, none⟩ = false) ∧ H < w.heap.size
def triV (a b c : Nat) : Value := .agg #[.int .u64 a, .int .u64 b, .int .u64 c]
def formR (r : Option (Nat × Nat × Nat)) : Value := match r with
  | some (a, b, c) => .tuple #[triV a b c, .bool true]
  | none => .tuple #[triV 0 0 0, .bool false]
/-- How many signs of a form are no digits. -/
def seps (F : Bs) : Nat := (F.filter (· ≠ 100)).length
theorem seps_cons (f : UInt8) (F : Bs) : seps (f :: F) = (if f = 100 then 0 else 1) + seps F := by
  unfold seps
  by_cases h : f = 100 <;> simp [h] ; omega
theorem formV_digit {F S : Bs} {f s : UInt8} {k a b c : Nat} (hf : f = 100) (hs : isD s = true) : formV (f :: F) (s :: S) k a b c = formV F S k (if k = 0 then a * 10 + vD s else a) (if k = 1 then b * 10 + vD s else b) (if k = 2 then c * 10 + vD s else c) := by
  conv => lhs; unfold formV
  rw [if_pos hf, if_pos hs]
theorem formV_nodigit {F S : Bs} {f s : UInt8} {k a b c : Nat} (hf : f = 100) (hs : isD s = false) : formV (f :: F) (s :: S) k a b c = none := by
  conv => lhs; unfold formV
  rw [if_pos hf, if_neg (by simp [hs])]
theorem formV_sign {F S : Bs} {f s : UInt8} {k a b c : Nat} (hf : f ≠ 100) (hs : f = s) : formV (f :: F) (s :: S) k a b c = formV F S (k + 1) a b c := by
  conv => lhs; unfold formV
  rw [if_neg hf, if_pos hs]
theorem formV_nosign {F S : Bs} {f s : UInt8} {k a b c : Nat} (hf : f ≠ 100) (hs : f ≠ s) : formV (f :: F) (s :: S) k a b c = none := by
  conv => lhs; unfold formV
  rw [if_neg hf, if_neg hs]
theorem tri_new (w : World) (T : TypeId) : Tri (w.alloc (.cells #[.int .u64 0, .int .u64 0, .int .u64 0] T)) w.heap.size 0 0 0 :=
  ⟨by simp [go_sem], by simp [go_sem], by simp [go_sem], fun o => World.frozen?_alloc_new _ _ _ _, by simp⟩
theorem tri_set0 {w : World} {H a b c : Nat} (x : Nat) (h : Tri w H a b c) : Tri (w.setCell ⟨H, 0, none⟩ (.int .u64 x)) H x b c :=
  ⟨World.cell?_setCell_same _ _ _ h.1, (World.cell?_setCell_other _ _ _ _ (by simp)).trans h.2.1, (World.cell?_setCell_other _ _ _ _ (by simp)).trans h.2.2.1, fun o => by simp [h.2.2.2.1 o], by simpa using h.2.2.2.2⟩
theorem tri_set1 {w : World} {H a b c : Nat} (x : Nat) (h : Tri w H a b c) : Tri (w.setCell ⟨H, 1, none⟩ (.int .u64 x)) H a x c :=
  ⟨(World.cell?_setCell_other _ _ _ _ (by simp)).trans h.1, World.cell?_setCell_same _ _ _ h.2.1, (World.cell?_setCell_other _ _ _ _ (by simp)).trans h.2.2.1, fun o => by simp [h.2.2.2.1 o], by simpa using h.2.2.2.2⟩
theorem tri_set2 {w : World} {H a b c : Nat} (x : Nat) (h : Tri w H a b c) : Tri (w.setCell ⟨H, 2, none⟩ (.int .u64 x)) H a b x :=
  ⟨(World.cell?_setCell_other _ _ _ _ (by simp)).trans h.1, (World.cell?_setCell_other _ _ _ _ (by simp)).trans h.2.1, World.cell?_setCell_same _ _ _ h.2.2.1, fun o => by simp [h.2.2.2.1 o], by simpa using h.2.2.2.2⟩
theorem Tri.next {w w' : World} {H a b c : Nat} (h : Tri w H a b c) (hb : Below w.heap.size w w') : Tri w' H a b c := by
  obtain ⟨k, f, l⟩ := keepf hb H h.2.2.2.2
  exact ⟨(k 0).trans h.1, (k 1).trans h.2.1, (k 2).trans h.2.2.1, fun o => (f o).trans (h.2.2.2.1 o), l⟩
theorem tri_load {w : World} {H a b c : Nat} (h : Tri w H a b c) : (loadVar 52 ⟨H, 0, none⟩).run Tryd.prog w = .ok (triV a b c) w := by
  obtain ⟨h0, h1, h2, _⟩ := h
  unfold triV
  simp [loadVar, h0, h1, h2, go_sem]
theorem tri_drew {w : World} {H a b c : Nat} (n : Nat) (h : Tri w H a b c) : Tri (w.drewN n) H a b c := h.next (bdrew (Below.refl _ _) n)
theorem tri_drew1 {w : World} {H a b c : Nat} (h : Tri w H a b c) : Tri w.drew H a b c := h.next (Below.drew (Below.refl _ _))
theorem u8_beq {a b : UInt8} (h : a = b) : ((a.toNat : Int) == b.toNat) = true := by subst h; simp
theorem u8_bne {a b : UInt8} (h : a ≠ b) : ((a.toNat : Int) == b.toNat) = false := by
  rw [beq_eq_false_iff_ne]; intro e; exact h (UInt8.toNat_inj.1 (by simpa using Int.ofNat_inj.1 e))
theorem pow10_le {k N : Nat} (h : k < N) (hN : N ≤ 10) : 10 ^ (k + 1) ≤ 10000000000 := Nat.le_trans (Nat.pow_le_pow_right (by decide) (show k + 1 ≤ 10 by omega)) (by decide)
set_option maxHeartbeats 8000000 in
set_option maxRecDepth 100000 in
theorem readForm_x (s F : Bs) (w : World) (hF : F.length ≤ 10) (hsep : seps F ≤ 2) :
    Calls Tryd.prog 28 #[.string (baS s), .string (baS F)] w fun e w' => e = .returned (formR (formV F s 0 0 0 0)) ∧ Below w.heap.size w w' := by
  have hs1 : (baS s).size = s.length := baS_len s
  have hs2 : (baS F).size = F.length := baS_len F
  by_cases hl : s.length = F.length
  · rw [hl] at hs1
    have hne : (((F.length : Int)) != F.length) = false := by simp
    obtain ⟨N, hN⟩ : ∃ N, F.length = N := ⟨_, rfl⟩
    rw [hN] at hs1 hs2 hF hne
    have HL := Lib.hid (And.intro (hl.trans hN) hN)
    have HSep := Lib.hid hsep
    clear hl hN hsep
    go_enter Tryd.func28, Tryd.ntmps28
    go_wp2
    go_loopw [6, 16] (fun av iv wr => ∃ (t k a b c : Nat), av = .int .i64 t ∧ iv = .int .i64 k ∧ k ≤ N ∧ t ≤ 2 ∧ Hid (formV F s 0 0 0 0 = formV (F.drop k) (s.drop k) t a b c ∧ t + seps (F.drop k) ≤ 2 ∧ a < 10 ^ k ∧ b < 10 ^ k ∧ c < 10 ^ k) ∧ Tri wr w.heap.size a b c ∧ Below w.heap.size w wr)
      (fun _ iv _ => N - (intOf iv).toNat)
    case atStart =>
      exact ⟨0, 0, 0, 0, 0, rfl, rfl, by omega, by omega, ⟨rfl, by simpa using HSep.out, by decide, by decide, by decide⟩, tri_new _ _, (Below.refl _ _).alloc (Nat.le_refl _) _⟩
    case round =>
      obtain ⟨t, k, a, b, c, rfl, rfl, hk, ht, hh, htri, hb⟩ := hrel
      by_cases hkn : k < N
      · have hkn' : (k : Int) < N := by omega
        have hkF : k < F.length := by have := HL.out.2; omega
        have hkS : k < s.length := by have := HL.out.1; omega
        have hatF := baS_at F k hkF
        have hatS := baS_at s k hkS
        have hdF : F.drop k = F[k]'hkF :: F.drop (k + 1) := List.drop_eq_getElem_cons hkF
        have hdS : s.drop k = s[k]'hkS :: s.drop (k + 1) := List.drop_eq_getElem_cons hkS
        obtain ⟨hdec, hsp, ha, hb', hc⟩ := hh.out
        rw [hdF] at hdec hsp
        rw [hdS] at hdec
        rw [seps_cons] at hsp
        clear hdF hdS hh
        generalize F[k]'hkF = f at *
        generalize s[k]'hkS = d at *
        obtain ⟨c0, c1, c2, hfz, hlt⟩ := htri
        by_cases hf : f = 100
        · have hf' : ((f.toNat : Int) == 100) = true := by rw [hf]; rfl
          have hf2 : ((f.toNat : Int) != 100) = false := by rw [hf]; rfl
          have HI := Lib.hid (fun w => isDigit_x d w)
          cases hd : isD d
          · have HF : Hid (formV F s 0 0 0 0 = none) := by show _ = _; rw [hdec, formV_nodigit hf hd]
            rw [hd] at HI
            have HT : Hid (Tri wr w.heap.size a b c) := ⟨c0, c1, c2, hfz, hlt⟩
            have hf0 := hfz 0; have hf1 := hfz 1; have hfz2 := hfz 2
            clear hdec hsp ha hb' hc hkF hkS hf hd
            go_wp2_with fail
            refine (HI.out _).mono ?_
            rintro e w1 ⟨rfl, rfl⟩
            go_wp2
            go_quiet (fail)
            go_wp2
            (try simp only [Exit.inBlock, Exit.then])
            have T3 := tri_set2 0 (tri_set1 0 (tri_set0 0 (tri_drew nq HT.out)))
            have L3 := tri_load T3
            refine bodyPost_ret (v := formR none) ?_ rfl ⟨by rw [HF.out], (((bdrew hb nq).setCell (Nat.le_refl _) _).setCell (Nat.le_refl _) _).setCell (Nat.le_refl _) _⟩
            rw [results_cell_tmp rfl]
            simp [asAddr, Result.andThen]
            rw [show ((0 : Nat) : Int) = 0 from rfl] at L3
            rw [L3]
            rfl
          · rw [hd] at HI
            have hd9 := vD_lt hd
            have hdn := (isD_iff d).1 hd
            have hsub : ((d.toNat : Int) - 48) = ((vD d : Nat) : Int) := by unfold vD; omega
            have hp := pow10_le hkn hF
            have hps : 10 ^ (k + 1) = 10 ^ k * 10 := Nat.pow_succ ..
            have hst := hdec.trans (formV_digit (F := F.drop (k + 1)) (S := s.drop (k + 1)) (k := t) (a := a) (b := b) (c := c) hf hd)
            rw [if_pos hf] at hsp
            have hv1 : IntKind.u8.wrap ((d.toNat : Int) - 48) = ((vD d : Nat) : Int) := by rw [hsub, IntKind.wrap_u8]; omega
            have hv4 : IntKind.u64.wrap ((vD d : Nat) : Int) = ((vD d : Nat) : Int) := by rw [IntKind.wrap_u64]; omega
            have HT : Hid (Tri wr w.heap.size a b c) := ⟨c0, c1, c2, hfz, hlt⟩
            rcases (show t = 0 ∨ t = 1 ∨ t = 2 by omega) with rfl | rfl | rfl
            · have HN : Hid (formV F s 0 0 0 0 = formV (F.drop (k + 1)) (s.drop (k + 1)) 0 (a * 10 + vD d) b c ∧ 0 + seps (F.drop (k + 1)) ≤ 2 ∧ (a * 10 + vD d) < 10 ^ (k + 1) ∧ b < 10 ^ (k + 1) ∧ c < 10 ^ (k + 1)) := ⟨by simpa using hst, by omega, by omega, by omega, by omega⟩
              have hv2 : IntKind.u64.wrap ((a : Int) * 10) = (a : Int) * 10 := by rw [IntKind.wrap_u64]; omega
              have hv3 : IntKind.u64.wrap ((a : Int) * 10 + (vD d : Nat)) = ((a * 10 + vD d : Nat) : Int) := by rw [IntKind.wrap_u64]; omega
              have hf0 := hfz 0
              clear hdec hst hsp ha hb' hc hkF hkS hf hd hd9 hdn hsub hp hps
              generalize vD d = D at *
              go_wp2_with fail
              refine (HI.out _).mono ?_
              rintro e w1 ⟨rfl, rfl⟩
              go_wp2
              go_region
              go_wp2
              go_roundw
              case rel => exact ⟨0, k + 1, (a * 10 + D), b, c, rfl, by go_num, by omega, by omega, HN, tri_drew1 (tri_set0 _ HT.out), Below.drew (hb.setCell (Nat.le_refl _) _)⟩
              case measure => simp [intOf]; omega
            · have HN : Hid (formV F s 0 0 0 0 = formV (F.drop (k + 1)) (s.drop (k + 1)) 1 a (b * 10 + vD d) c ∧ 1 + seps (F.drop (k + 1)) ≤ 2 ∧ a < 10 ^ (k + 1) ∧ (b * 10 + vD d) < 10 ^ (k + 1) ∧ c < 10 ^ (k + 1)) := ⟨by simpa using hst, by omega, by omega, by omega, by omega⟩
              have hv2 : IntKind.u64.wrap ((b : Int) * 10) = (b : Int) * 10 := by rw [IntKind.wrap_u64]; omega
              have hv3 : IntKind.u64.wrap ((b : Int) * 10 + (vD d : Nat)) = ((b * 10 + vD d : Nat) : Int) := by rw [IntKind.wrap_u64]; omega
              have hf0 := hfz 1
              clear hdec hst hsp ha hb' hc hkF hkS hf hd hd9 hdn hsub hp hps
              generalize vD d = D at *
              go_wp2_with fail
              refine (HI.out _).mono ?_
              rintro e w1 ⟨rfl, rfl⟩
              go_wp2
              go_region
              go_wp2
              go_roundw
              case rel => exact ⟨1, k + 1, a, (b * 10 + D), c, rfl, by go_num, by omega, by omega, HN, tri_drew1 (tri_set1 _ HT.out), Below.drew (hb.setCell (Nat.le_refl _) _)⟩
              case measure => simp [intOf]; omega
            · have HN : Hid (formV F s 0 0 0 0 = formV (F.drop (k + 1)) (s.drop (k + 1)) 2 a b (c * 10 + vD d) ∧ 2 + seps (F.drop (k + 1)) ≤ 2 ∧ a < 10 ^ (k + 1) ∧ b < 10 ^ (k + 1) ∧ (c * 10 + vD d) < 10 ^ (k + 1)) := ⟨by simpa using hst, by omega, by omega, by omega, by omega⟩
              have hv2 : IntKind.u64.wrap ((c : Int) * 10) = (c : Int) * 10 := by rw [IntKind.wrap_u64]; omega
              have hv3 : IntKind.u64.wrap ((c : Int) * 10 + (vD d : Nat)) = ((c * 10 + vD d : Nat) : Int) := by rw [IntKind.wrap_u64]; omega
              have hf0 := hfz 2
              clear hdec hst hsp ha hb' hc hkF hkS hf hd hd9 hdn hsub hp hps
              generalize vD d = D at *
              go_wp2_with fail
              refine (HI.out _).mono ?_
              rintro e w1 ⟨rfl, rfl⟩
              go_wp2
              go_region
              go_wp2
              go_roundw
              case rel => exact ⟨2, k + 1, a, b, (c * 10 + D), rfl, by go_num, by omega, by omega, HN, tri_drew1 (tri_set2 _ HT.out), Below.drew (hb.setCell (Nat.le_refl _) _)⟩
              case measure => simp [intOf]; omega
        · have hf' : ((f.toNat : Int) == 100) = false := u8_bne hf
          have hf2 : ((f.toNat : Int) != 100) = true := by rw [bne, hf']; rfl
          have HT : Hid (Tri wr w.heap.size a b c) := ⟨c0, c1, c2, hfz, hlt⟩
          have hp := pow10_le hkn hF
          have hps : 10 ^ (k + 1) = 10 ^ k * 10 := Nat.pow_succ ..
          rw [if_neg hf] at hsp
          by_cases hfd : f = d
          · have hfd' : ((f.toNat : Int) == d.toNat) = true := u8_beq hfd
            have HN : Hid (formV F s 0 0 0 0 = formV (F.drop (k + 1)) (s.drop (k + 1)) (t + 1) a b c ∧ (t + 1) + seps (F.drop (k + 1)) ≤ 2 ∧ a < 10 ^ (k + 1) ∧ b < 10 ^ (k + 1) ∧ c < 10 ^ (k + 1)) := ⟨hdec.trans (formV_sign hf hfd), by omega, by omega, by omega, by omega⟩
            have ht1 : t + 1 ≤ 2 := by omega
            clear hdec hsp ha hb' hc hkF hkS hf hp hps hfd
            go_wp2
            go_quiet (fail)
            go_wp2
            go_roundw
            case rel => exact ⟨t + 1, k + 1, a, b, c, by go_num, by go_num, by omega, ht1, HN, tri_drew nq HT.out, bdrew hb nq⟩
            case measure => simp [intOf]; omega
          · have hfd' : ((f.toNat : Int) == d.toNat) = false := u8_bne hfd
            have HF : Hid (formV F s 0 0 0 0 = none) := by show _ = _; rw [hdec, formV_nosign hf hfd]
            have hf0 := hfz 0; have hf1 := hfz 1; have hfz2 := hfz 2
            clear hdec hsp ha hb' hc hkF hkS hf hp hps hfd
            go_wp2
            go_quiet (fail)
            go_wp2
            (try simp only [Exit.inBlock, Exit.then])
            have T3 := tri_set2 0 (tri_set1 0 (tri_set0 0 (tri_drew nq HT.out)))
            have L3 := tri_load T3
            refine bodyPost_ret (v := formR none) ?_ rfl ⟨by rw [HF.out], (((bdrew hb nq).setCell (Nat.le_refl _) _).setCell (Nat.le_refl _) _).setCell (Nat.le_refl _) _⟩
            rw [results_cell_tmp rfl]
            simp [asAddr, Result.andThen]
            rw [show ((0 : Nat) : Int) = 0 from rfl] at L3
            rw [L3]
            rfl
      · obtain rfl : k = N := by omega
        have HF : Hid (formV F s 0 0 0 0 = some (a, b, c)) := by
          show _ = _
          have := hh.out.1
          rw [List.drop_eq_nil_of_le (by have := HL.out.2; omega), List.drop_eq_nil_of_le (by have := HL.out.1; omega)] at this
          rw [this]; unfold formV; rfl
        have HT := Lib.hid htri
        obtain ⟨c0, c1, c2, hfz, hlt⟩ := htri
        have hf0 := hfz 0; have hf1 := hfz 1; have hfz2 := hfz 2
        clear hh
        go_wp2
        (try simp only [Exit.inBlock, Exit.then])
        have T3 := tri_set2 c (tri_set1 b (tri_set0 a HT.out))
        have L3 := tri_load T3
        refine bodyPost_ret (v := formR (some (a, b, c))) ?_ rfl ⟨by rw [HF.out], ((hb.setCell (Nat.le_refl _) _).setCell (Nat.le_refl _) _).setCell (Nat.le_refl _) _⟩
        rw [results_cell_tmp rfl]
        simp [asAddr, Result.andThen]
        rw [L3]
        rfl
  · have hne : (((s.length : Int)) != F.length) = true := by rw [bne_iff_ne]; omega
    have HF : Hid (formV F s 0 0 0 0 = none) := formV_len _ _ _ _ _ _ (fun e => hl e.symm)
    clear hl hF hsep
    generalize s.length = N at *
    generalize F.length = M at *
    have HT := Lib.hid (tri_new w 52)
    have T0 := HT.out
    obtain ⟨c0, c1, c2, hfz, hlt⟩ := T0
    have hf0 := hfz 0; have hf1 := hfz 1; have hfz2 := hfz 2
    have hb : Hid (Below w.heap.size w (w.alloc (.cells #[.int .u64 0, .int .u64 0, .int .u64 0] 52))) := (Below.refl _ _).alloc (Nat.le_refl _) _
    go_enter Tryd.func28, Tryd.ntmps28
    go_wp2
    (try simp only [Exit.inBlock, Exit.then])
    have T3 := HT.out
    have L3 := tri_load T3
    refine bodyPost_ret (v := formR none) ?_ rfl ⟨by rw [HF.out], hb.out⟩
    rw [results_cell_tmp rfl]
    simp [asAddr, Result.andThen]
    rw [L3]
    rfl
end Go.Proofs.YtjoiedomdliadaaDoor
