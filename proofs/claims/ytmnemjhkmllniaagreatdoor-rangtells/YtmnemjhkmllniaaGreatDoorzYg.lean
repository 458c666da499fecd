/- The checker's own groups: the groups of a part of an address. -/
import Derived.Test.YtmnemjhkmllniaaGreatDoorzYs
namespace Go.Proofs.YtmnemjhkmllniaaGreatDoor
open Go.ChangeShapes Go.WideShapes Go.RowKit Go.Sort

/-- What groups hands back. -/
def GroupsE (w : World) (r : Option (List Nat)) (e : Ending) (w' : World) : Prop := Below w.heap.size w w' ∧ match r with
  | none => e = .returned (.tuple #[.slice none 0 0, .bool false])
  | some l => ∃ p c, e = .returned (.tuple #[.slice p l.length c, .bool true]) ∧ l.length ≤ c ∧ ∀ (j x : Nat), l[j]? = some x → ∃ g, p = some ⟨g, 0, none⟩ ∧ g < w'.heap.size ∧ w'.cell? ⟨g, j, none⟩ = some (.int .u64 (x : Int))
theorem splitA_count (z : UInt8) : ∀ (s cur : Bs), (splitA z cur s).length ≤ s.length + 1
  | [], cur => by simp [splitA]
  | b :: r, cur => by
    unfold splitA
    split
    · have := splitA_count z r []; simp; omega
    · have := splitA_count z r (cur ++ [b]); simp; omega
theorem splitV_count {z : UInt8} {s : Bs} {n : Nat} (h : s.length ≤ n) : (splitV z s).length ≤ n + 1 := by have := splitA_count z s []; unfold splitV; omega
theorem partsG_four {last : Bool} {p : Bs} {r : List Bs} {all : List Nat} {v : Nat} (h : rfour p = some v) (hl : last = true) (hr : r = []) : partsG last (p :: r) all = some (all ++ [v / 65536, v % 65536]) := by
  subst hl hr; simp [partsG, partG, h]
theorem partsG_group {last : Bool} {p : Bs} {r : List Bs} {all : List Nat} (h : rfour p = none ∨ last = false ∨ r ≠ []) : partsG last (p :: r) all = match groupV p with
    | none => none
    | some g => partsG last r (all ++ [g]) := by
  have e : partG (last && r.isEmpty) p = (groupV p).map (fun g => [g]) := by
    unfold partG
    rcases h with h | h | h
    · rw [h]; cases (last && r.isEmpty) <;> simp
    · subst h; simp
    · have : r.isEmpty = false := by cases r with
        | nil => exact absurd rfl h
        | cons a b => rfl
      rw [this]; simp
  conv => lhs; unfold partsG
  rw [e]
  cases groupV p <;> rfl
theorem own_row {w : World} {base c : Nat} {p : Option Addr} {l : List Nat} (h : w.ownsRow base 23 1 (.slice p l.length c) l.length (l.map valU)) : l.length ≤ c ∧ ∀ (j x : Nat), l[j]? = some x → ∃ g, p = some ⟨g, 0, none⟩ ∧ g < w.heap.size ∧ w.cell? ⟨g, j, none⟩ = some (.int .u64 (x : Int)) := by
  rcases h.2 with ⟨_, h0⟩ | ⟨g, cap, cur, hv, b, hg2, hcap, _⟩
  · refine ⟨by omega, fun j x hj => ?_⟩
    rw [List.length_eq_zero_iff.1 h0] at hj; cases hj
  · obtain ⟨rfl, rfl⟩ : p = some ⟨g, 0, none⟩ ∧ c = cap := by injection hv with a _ b; exact ⟨a, b⟩
    have hgl : g < w.heap.size := by by_cases hx : g < w.heap.size; exact hx; rw [Array.getElem?_eq_none (by omega)] at hg2; cases hg2
    exact ⟨hcap, fun j x hj => ⟨g, rfl, hgl, rowU_own h j x hj⟩⟩
theorem hexM_step {acc : Nat} {p : Bs} {j : Nat} (hj : j < p.length) {d : Nat} (hd : hexD (p[j]'hj) = some d) : hexM acc (p.drop j) = hexM (acc * 16 + d) (p.drop (j + 1)) := by
  rw [List.drop_eq_getElem_cons hj]
  conv => lhs; unfold hexM
  rw [hd]
theorem hexM_stop {acc : Nat} {p : Bs} {j : Nat} (hj : j < p.length) (hd : hexD (p[j]'hj) = none) : hexM acc (p.drop j) = none := by
  rw [List.drop_eq_getElem_cons hj]
  unfold hexM
  rw [hd]
set_option maxHeartbeats 16000000 in
set_option maxRecDepth 100000 in
theorem groupsE_t (l : Bs) (w : World) (hl : l.length ≤ 100000) :
    Calls Tryz.prog 61 #[.string (baS l), .bool true] w fun e w' => GroupsE w (rgroups l true) e w' := by
  obtain ⟨i0, hi, hz0, hz1, hz2⟩ := info_parts infoU64
  by_cases hl0 : l = []
  · subst hl0
    have e0 : baS [] = ⟨#[]⟩ := rfl
    rw [e0]
    go_enter Tryz.func61, Tryz.ntmps61
    go_wp2
    go_ret2
    exact ⟨Below.refl _ _, none, 0, rfl, Nat.le_refl _, fun j x hj => by cases hj⟩
  · have hq := ne_listS hl0
    obtain ⟨R, hRR⟩ : ∃ R, rgroups l true = R := ⟨_, rfl⟩
    rw [hRR]
    have HSp := Lib.hid (splitE_x 58 l w hl)
    have HR : Hid (R = partsG true (splitV 58 l) []) := by show _ = _; rw [← hRR]; unfold rgroups; rw [if_neg hl0]
    have HPl : Hid ((∀ p ∈ splitV 58 l, p.length ≤ 100000) ∧ (splitV 58 l).length ≤ 100001) := ⟨fun p hp => by have := splitV_len hp; omega, splitV_count hl⟩
    clear hl hl0 hRR
    go_enter Tryz.func61, Tryz.ntmps61
    go_wp2_with fail
    refine HSp.out.mono ?_
    rintro e W ⟨hbW, g, c, rfl, hg0, hgl, hgc, hrow⟩
    have HRow := Lib.hid hrow
    clear hrow HSp
    generalize splitV 58 l = ps at *
    obtain ⟨M, hM⟩ : ∃ M, ps.length = M := ⟨_, rfl⟩
    have HM := Lib.hid hM
    have hM5 : M ≤ 100001 := by have := HPl.out.2; omega
    rw [hM]
    clear hM hq
    go_wp2
    go_loopw [6, 8] (fun v iv wr => ∃ (vs : List Nat) (k : Nat) (p : Option Addr) (cc : Nat), v = .slice p vs.length cc ∧ iv = .int .i64 k ∧ k ≤ M ∧ vs.length ≤ 2 * k ∧ Hid (R = partsG true (ps.drop k) vs) ∧ wr.ownsRow W.heap.size 23 1 (.slice p vs.length cc) vs.length (vs.map valU) ∧ Below W.heap.size W wr)
      (fun _ iv _ => M - (intOf iv).toNat)
    case atStart => exact ⟨[], 0, none, 0, rfl, rfl, by omega, by simp, by show _ = _; rw [List.drop_zero]; exact HR.out, World.ownsRow_nil _ _ _ _, Below.refl _ _⟩
    case round =>
      obtain ⟨vs, k, p, cc, rfl, rfl, hk, hvs, hh, hown, hb⟩ := hrel
      have hzW := hbW.size
      have hz := hb.size
      by_cases hkM : k < M
      · have hkM' : (k : Int) < M := by omega
        have hkp : k < ps.length := by rw [HM.out]; exact hkM
        have hcell := (olds hb g k hgl).trans (rowS_addr HRow.out k hkp)
        have hdrop : ps.drop k = ps[k]'hkp :: ps.drop (k + 1) := List.drop_eq_getElem_cons hkp
        have hlen := HPl.out.1 _ (List.getElem_mem hkp)
        generalize ps[k]'hkp = q at hcell hdrop hlen
        have HF := Lib.hid (fun w => fourE_x q w hlen)
        have hnil : ps.drop (k + 1) = [] ↔ k + 1 = M := by
          rw [List.drop_eq_nil_iff, HM.out]; omega
        go_wp2_with fail
        refine (HF.out _).mono ?_
        rintro e w2 ⟨rfl, hb2⟩
        have B2 := below_next hb hb2
        have hown2 := own_next hown hb2
        have hcell2 := (olds hb2 g k (Nat.lt_of_lt_of_le hgl hz)).trans hcell
        have HHd : Hid (R = partsG true (q :: ps.drop (k + 1)) vs) := by show _ = _; rw [← hdrop]; exact hh.out
        cases h4 : rfour q with
        | none =>
          have HOr : Hid (rfour q = none ∨ true = false ∨ ps.drop (k + 1) ≠ []) := Or.inl h4
          simp only [numR]
          clear h4 hnil HF hcell
          rw [hdrop] at hh
          have hG := (HHd.out.trans (partsG_group HOr.out))
          have hqsz : (baS q).size = q.length := baS_len q
          obtain ⟨n, hn⟩ : ∃ n, q.length = n := ⟨_, rfl⟩
          rw [hn] at hqsz
          have hgl2 : g < w2.heap.size := Nat.lt_of_lt_of_le hgl B2.size
          by_cases hsmall : n < 1
          · have HN : Hid (R = none) := by
              show _ = _; rw [hG, show groupV q = none by unfold groupV; rw [if_pos (Or.inl (List.length_eq_zero_iff.1 (by omega)))]]
            have hs1 : (n : Int) < 1 := by omega
            clear hG hsmall hn
            go_wp2
            go_ret2
            refine ⟨below_next hbW B2, ?_⟩
            rw [HN.out]
            exact rfl
          · have hs1 : ¬ (n : Int) < 1 := by omega
            by_cases hbig : 4 < n
            · have HN : Hid (R = none) := by
                show _ = _; rw [hG, show groupV q = none by unfold groupV; rw [if_pos (Or.inr (by omega))]]
              have hs2 : (4 : Int) < n := by omega
              clear hG hsmall hn hbig
              go_wp2
              go_ret2
              refine ⟨below_next hbW B2, ?_⟩
              rw [HN.out]
              exact rfl
            · have hs2 : ¬ (4 : Int) < n := by omega
              have hgv : groupV q = hexM 0 q := by unfold groupV; rw [if_neg (by intro e; rcases e with e | e; rw [e] at hn; simp at hn; omega; omega)]
              rw [hgv] at hG
              have HG := Lib.hid hG
              clear hG hgv
              go_wp2
              go_loopw [11, 12] (fun nv jv wi => ∃ (acc j : Nat), nv = .int .u64 acc ∧ jv = .int .i64 j ∧ j ≤ n ∧ Hid (hexM 0 q = hexM acc (q.drop j) ∧ acc < 16 ^ j) ∧ wi = w2)
                (fun _ jv _ => n - (intOf jv).toNat)
              case atStart => exact ⟨0, 0, rfl, rfl, by omega, ⟨rfl, by decide⟩, rfl⟩
              case round =>
                obtain ⟨acc, j, rfl, rfl, hj, hx, rfl⟩ := hrel
                by_cases hjn : j < n
                · have hjn' : (j : Int) < n := by omega
                  have hjl : j < q.length := by omega
                  have hat := baS_at q j hjl
                  have hst := fun d h => hexM_step (acc := acc) hjl (d := d) h
                  have hsp := fun h => hexM_stop (acc := acc) hjl h
                  generalize q[j]'hjl = ch at hat hst hsp
                  have HH := Lib.hid (hex1_x ch)
                  cases hd : hexD ch with
                  | none =>
                    have HN : Hid (R = none) := by show _ = _; rw [HG.out, hx.out.1, hsp hd]
                    have hI : hexI ch = -1 := by unfold hexI; rw [hd]
                    rw [hI] at HH
                    clear hst hsp hd hI hx
                    go_wp2_with fail
                    refine (HH.out _).mono ?_
                    rintro e w3 ⟨rfl, rfl⟩
                    go_wp2
                    go_ret2
                    refine ⟨below_next hbW B2, ?_⟩
                    rw [HN.out]
                    exact rfl
                  | some d =>
                    have hI : hexI ch = (d : Int) := by unfold hexI; rw [hd]
                    rw [hI] at HH
                    have hd16 := hexD_lt hd
                    have hac : acc < 4096 := Nat.lt_of_lt_of_le hx.out.2 (Nat.le_trans (Nat.pow_le_pow_right (by decide) (show j ≤ 3 by omega)) (by decide))
                    have hor : bits .or .u64 (IntKind.u64.wrap ((acc : Int) * 16)) (d : Int) = ((acc * 16 + d : Nat) : Int) := by
                      rw [IntKind.wrap_u64, show ((acc : Int) * 16) % 18446744073709551616 = ((acc * 16 : Nat) : Int) by omega, u64_or _ _ (by omega) (by omega) (by omega) (by omega)]
                      simp only [Int.toNat_natCast]
                      rw [or_add 4 acc d hd16]
                    have HO := Lib.hid hor
                    have hpw : 16 ^ (j + 1) = 16 ^ j * 16 := Nat.pow_succ ..
                    have HX : Hid (hexM 0 q = hexM (acc * 16 + d) (q.drop (j + 1)) ∧ acc * 16 + d < 16 ^ (j + 1)) := ⟨by rw [hx.out.1, hst d hd], by have := hx.out.2; omega⟩
                    clear hst hsp hd hI hx hor hpw hac
                    go_wp2_with fail
                    refine (HH.out _).mono ?_
                    rintro e w3 ⟨rfl, rfl⟩
                    go_wp2
                    go_roundw
                    case rel => exact ⟨acc * 16 + d, j + 1, by rw [HO.out], by go_num, by omega, HX.out, by first | rfl | trivial⟩
                    case measure => simp [intOf]; omega
                · obtain rfl : j = n := by omega
                  have HN : Hid (R = partsG true (ps.drop (k + 1)) (vs ++ [acc])) := by
                    show _ = _; rw [HG.out, hx.out.1, List.drop_of_length_le (by omega)]; rfl
                  have hzz := below_next hbW B2
                  have hzs2 := B2.size
                  have hzs := hzz.size
                  have hjn' : ¬ (j : Int) < j := by omega
                  clear hx HG
                  go_wp2_with (at_builtin; refine wpList_append_lies _ (by rfl) _ _ 84 (by rfl) W.heap.size 23 i0 (.int .u64 0) 1 8 Tryz.underlying84 hi hz0 hz1 hz2 rfl (by decide) _ _ _ (by rfl) (hown2.alloc _) ⟨wr.heap.size, 0, none⟩ 1 1 [.int .u64 (acc : Int)] (by rfl) (by rfl) one_new (fun x hx => by simp at hx; subst hx; rfl) (by decide) (by unfold maxLen; omega) (by omega) (by simp; omega) (wr.heap.size + 1) (by simp) ?_)
                  intro g3 cap w4 hown4 hgrow hat4 hlt4
                  have B4 : Below W.heap.size W w4 := (B2.alloc B2.size _).grown hgrow (by simp; omega) (fun k hk => (hown2.lt k hk).1)
                  clear hgrow hat4
                  go_wp2
                  go_roundw
                  case rel => exact ⟨vs ++ [acc], k + 1, some ⟨g3, 0, none⟩, cap, by simp, by go_num, by omega, by simp; omega, HN.out, by simpa [valU] using hown4, B4⟩
                  case measure => simp [intOf]; omega
        | some v =>
          simp only [numR]
          by_cases hA : k + 1 = M
          · have hkM1 := hA
            have hv32 : v < 4294967296 := by rw [rfour_is] at h4; exact fourV_lt h4
            have HN : Hid (R = partsG true (ps.drop (k + 1)) (vs ++ [v / 65536, v % 65536])) := by
              show _ = _; rw [HHd.out, partsG_four h4 rfl (hnil.2 hkM1), hnil.2 hkM1]; rfl
            have hke : ((k : Int) == (M : Int) - 1) = true := by rw [beq_iff_eq]; omega
            have HV := Lib.hid (And.intro (and16 v (by omega)) hv32)
            have hzs2 := B2.size
            clear h4 hnil HF hcell HHd hh hdrop hv32
            go_wp2_with (at_builtin; refine wpList_append_lies _ (by rfl) _ _ 84 (by rfl) W.heap.size 23 i0 (.int .u64 0) 1 8 Tryz.underlying84 hi hz0 hz1 hz2 rfl (by decide) _ _ _ (by rfl) (hown2.alloc _) ⟨w2.heap.size, 0, none⟩ 2 2 [.int .u64 ((v : Int) / 65536), .int .u64 (bits .and .u64 (v : Int) 65535)] (by rfl) (by rfl) two_new (fun x hx => by simp at hx; rcases hx with rfl | rfl <;> rfl) (by decide) (by unfold maxLen; omega) (by omega) (by simp; omega) (w2.heap.size + 1) (by simp) ?_)
            intro g3 cap w4 hown4 hgrow hat4 hlt4
            have B4 : Below W.heap.size W w4 := (B2.alloc B2.size _).grown hgrow (by simp; omega) (fun k hk => (hown2.lt k hk).1)
            clear hgrow hat4
            go_wp2
            go_roundw
            case rel =>
              refine ⟨vs ++ [v / 65536, v % 65536], k + 1, some ⟨g3, 0, none⟩, cap, by simp, by go_num, by omega, by simp; omega, HN.out, ?_, B4⟩
              have h := hown4
              rw [HV.out.1] at h
              simpa [valU] using h
            case measure => simp [intOf]; omega
          · have HOr : Hid (rfour q = none ∨ true = false ∨ ps.drop (k + 1) ≠ []) := by
              right; right; rw [Ne, hnil]; exact hA
            have hkm : ((k : Int) == (M : Int) - 1) = false := by rw [beq_eq_false_iff_ne]; intro e; exact hA (by omega)
            clear h4 hnil HF hcell hA
            rw [hdrop] at hh
            have hG := (HHd.out.trans (partsG_group HOr.out))
            have hqsz : (baS q).size = q.length := baS_len q
            obtain ⟨n, hn⟩ : ∃ n, q.length = n := ⟨_, rfl⟩
            rw [hn] at hqsz
            have hgl2 : g < w2.heap.size := Nat.lt_of_lt_of_le hgl B2.size
            by_cases hsmall : n < 1
            · have HN : Hid (R = none) := by
                show _ = _; rw [hG, show groupV q = none by unfold groupV; rw [if_pos (Or.inl (List.length_eq_zero_iff.1 (by omega)))]]
              have hs1 : (n : Int) < 1 := by omega
              clear hG hsmall hn
              go_wp2
              go_ret2
              refine ⟨below_next hbW B2, ?_⟩
              rw [HN.out]
              exact rfl
            · have hs1 : ¬ (n : Int) < 1 := by omega
              by_cases hbig : 4 < n
              · have HN : Hid (R = none) := by
                  show _ = _; rw [hG, show groupV q = none by unfold groupV; rw [if_pos (Or.inr (by omega))]]
                have hs2 : (4 : Int) < n := by omega
                clear hG hsmall hn hbig
                go_wp2
                go_ret2
                refine ⟨below_next hbW B2, ?_⟩
                rw [HN.out]
                exact rfl
              · have hs2 : ¬ (4 : Int) < n := by omega
                have hgv : groupV q = hexM 0 q := by unfold groupV; rw [if_neg (by intro e; rcases e with e | e; rw [e] at hn; simp at hn; omega; omega)]
                rw [hgv] at hG
                have HG := Lib.hid hG
                clear hG hgv
                go_wp2
                go_loopw [11, 12] (fun nv jv wi => ∃ (acc j : Nat), nv = .int .u64 acc ∧ jv = .int .i64 j ∧ j ≤ n ∧ Hid (hexM 0 q = hexM acc (q.drop j) ∧ acc < 16 ^ j) ∧ wi = w2)
                  (fun _ jv _ => n - (intOf jv).toNat)
                case atStart => exact ⟨0, 0, rfl, rfl, by omega, ⟨rfl, by decide⟩, rfl⟩
                case round =>
                  obtain ⟨acc, j, rfl, rfl, hj, hx, rfl⟩ := hrel
                  by_cases hjn : j < n
                  · have hjn' : (j : Int) < n := by omega
                    have hjl : j < q.length := by omega
                    have hat := baS_at q j hjl
                    have hst := fun d h => hexM_step (acc := acc) hjl (d := d) h
                    have hsp := fun h => hexM_stop (acc := acc) hjl h
                    generalize q[j]'hjl = ch at hat hst hsp
                    have HH := Lib.hid (hex1_x ch)
                    cases hd : hexD ch with
                    | none =>
                      have HN : Hid (R = none) := by show _ = _; rw [HG.out, hx.out.1, hsp hd]
                      have hI : hexI ch = -1 := by unfold hexI; rw [hd]
                      rw [hI] at HH
                      clear hst hsp hd hI hx
                      go_wp2_with fail
                      refine (HH.out _).mono ?_
                      rintro e w3 ⟨rfl, rfl⟩
                      go_wp2
                      go_ret2
                      refine ⟨below_next hbW B2, ?_⟩
                      rw [HN.out]
                      exact rfl
                    | some d =>
                      have hI : hexI ch = (d : Int) := by unfold hexI; rw [hd]
                      rw [hI] at HH
                      have hd16 := hexD_lt hd
                      have hac : acc < 4096 := Nat.lt_of_lt_of_le hx.out.2 (Nat.le_trans (Nat.pow_le_pow_right (by decide) (show j ≤ 3 by omega)) (by decide))
                      have hor : bits .or .u64 (IntKind.u64.wrap ((acc : Int) * 16)) (d : Int) = ((acc * 16 + d : Nat) : Int) := by
                        rw [IntKind.wrap_u64, show ((acc : Int) * 16) % 18446744073709551616 = ((acc * 16 : Nat) : Int) by omega, u64_or _ _ (by omega) (by omega) (by omega) (by omega)]
                        simp only [Int.toNat_natCast]
                        rw [or_add 4 acc d hd16]
                      have HO := Lib.hid hor
                      have hpw : 16 ^ (j + 1) = 16 ^ j * 16 := Nat.pow_succ ..
                      have HX : Hid (hexM 0 q = hexM (acc * 16 + d) (q.drop (j + 1)) ∧ acc * 16 + d < 16 ^ (j + 1)) := ⟨by rw [hx.out.1, hst d hd], by have := hx.out.2; omega⟩
                      clear hst hsp hd hI hx hor hpw hac
                      go_wp2_with fail
                      refine (HH.out _).mono ?_
                      rintro e w3 ⟨rfl, rfl⟩
                      go_wp2
                      go_roundw
                      case rel => exact ⟨acc * 16 + d, j + 1, by rw [HO.out], by go_num, by omega, HX.out, by first | rfl | trivial⟩
                      case measure => simp [intOf]; omega
                  · obtain rfl : j = n := by omega
                    have HN : Hid (R = partsG true (ps.drop (k + 1)) (vs ++ [acc])) := by
                      show _ = _; rw [HG.out, hx.out.1, List.drop_of_length_le (by omega)]; rfl
                    have hzz := below_next hbW B2
                    have hzs2 := B2.size
                    have hzs := hzz.size
                    have hjn' : ¬ (j : Int) < j := by omega
                    clear hx HG
                    go_wp2_with (at_builtin; refine wpList_append_lies _ (by rfl) _ _ 84 (by rfl) W.heap.size 23 i0 (.int .u64 0) 1 8 Tryz.underlying84 hi hz0 hz1 hz2 rfl (by decide) _ _ _ (by rfl) (hown2.alloc _) ⟨wr.heap.size, 0, none⟩ 1 1 [.int .u64 (acc : Int)] (by rfl) (by rfl) one_new (fun x hx => by simp at hx; subst hx; rfl) (by decide) (by unfold maxLen; omega) (by omega) (by simp; omega) (wr.heap.size + 1) (by simp) ?_)
                    intro g3 cap w4 hown4 hgrow hat4 hlt4
                    have B4 : Below W.heap.size W w4 := (B2.alloc B2.size _).grown hgrow (by simp; omega) (fun k hk => (hown2.lt k hk).1)
                    clear hgrow hat4
                    go_wp2
                    go_roundw
                    case rel => exact ⟨vs ++ [acc], k + 1, some ⟨g3, 0, none⟩, cap, by simp, by go_num, by omega, by simp; omega, HN.out, by simpa [valU] using hown4, B4⟩
                    case measure => simp [intOf]; omega
      · obtain rfl : k = M := by omega
        have HF : Hid (R = some vs) := by show _ = _; rw [hh.out, List.drop_of_length_le (by rw [HM.out]; omega)]; rfl
        have HO := Lib.hid (own_row hown)
        clear hh hown
        go_wp2
        go_ret2
        refine ⟨below_next hbW hb, ?_⟩
        rw [HF.out]
        exact ⟨p, cc, rfl, HO.out.1, HO.out.2⟩
set_option maxHeartbeats 16000000 in
set_option maxRecDepth 100000 in
theorem groupsE_f (l : Bs) (w : World) (hl : l.length ≤ 100000) :
    Calls Tryz.prog 61 #[.string (baS l), .bool false] w fun e w' => GroupsE w (rgroups l false) e w' := by
  obtain ⟨i0, hi, hz0, hz1, hz2⟩ := info_parts infoU64
  by_cases hl0 : l = []
  · subst hl0
    have e0 : baS [] = ⟨#[]⟩ := rfl
    rw [e0]
    go_enter Tryz.func61, Tryz.ntmps61
    go_wp2
    go_ret2
    exact ⟨Below.refl _ _, none, 0, rfl, Nat.le_refl _, fun j x hj => by cases hj⟩
  · have hq := ne_listS hl0
    obtain ⟨R, hRR⟩ : ∃ R, rgroups l false = R := ⟨_, rfl⟩
    rw [hRR]
    have HSp := Lib.hid (splitE_x 58 l w hl)
    have HR : Hid (R = partsG false (splitV 58 l) []) := by show _ = _; rw [← hRR]; unfold rgroups; rw [if_neg hl0]
    have HPl : Hid ((∀ p ∈ splitV 58 l, p.length ≤ 100000) ∧ (splitV 58 l).length ≤ 100001) := ⟨fun p hp => by have := splitV_len hp; omega, splitV_count hl⟩
    clear hl hl0 hRR
    go_enter Tryz.func61, Tryz.ntmps61
    go_wp2_with fail
    refine HSp.out.mono ?_
    rintro e W ⟨hbW, g, c, rfl, hg0, hgl, hgc, hrow⟩
    have HRow := Lib.hid hrow
    clear hrow HSp
    generalize splitV 58 l = ps at *
    obtain ⟨M, hM⟩ : ∃ M, ps.length = M := ⟨_, rfl⟩
    have HM := Lib.hid hM
    have hM5 : M ≤ 100001 := by have := HPl.out.2; omega
    rw [hM]
    clear hM hq
    go_wp2
    go_loopw [6, 8] (fun v iv wr => ∃ (vs : List Nat) (k : Nat) (p : Option Addr) (cc : Nat), v = .slice p vs.length cc ∧ iv = .int .i64 k ∧ k ≤ M ∧ vs.length ≤ 2 * k ∧ Hid (R = partsG false (ps.drop k) vs) ∧ wr.ownsRow W.heap.size 23 1 (.slice p vs.length cc) vs.length (vs.map valU) ∧ Below W.heap.size W wr)
      (fun _ iv _ => M - (intOf iv).toNat)
    case atStart => exact ⟨[], 0, none, 0, rfl, rfl, by omega, by simp, by show _ = _; rw [List.drop_zero]; exact HR.out, World.ownsRow_nil _ _ _ _, Below.refl _ _⟩
    case round =>
      obtain ⟨vs, k, p, cc, rfl, rfl, hk, hvs, hh, hown, hb⟩ := hrel
      have hzW := hbW.size
      have hz := hb.size
      by_cases hkM : k < M
      · have hkM' : (k : Int) < M := by omega
        have hkp : k < ps.length := by rw [HM.out]; exact hkM
        have hcell := (olds hb g k hgl).trans (rowS_addr HRow.out k hkp)
        have hdrop : ps.drop k = ps[k]'hkp :: ps.drop (k + 1) := List.drop_eq_getElem_cons hkp
        have hlen := HPl.out.1 _ (List.getElem_mem hkp)
        generalize ps[k]'hkp = q at hcell hdrop hlen
        have HF := Lib.hid (fun w => fourE_x q w hlen)
        have hnil : ps.drop (k + 1) = [] ↔ k + 1 = M := by
          rw [List.drop_eq_nil_iff, HM.out]; omega
        go_wp2_with fail
        refine (HF.out _).mono ?_
        rintro e w2 ⟨rfl, hb2⟩
        have B2 := below_next hb hb2
        have hown2 := own_next hown hb2
        have hcell2 := (olds hb2 g k (Nat.lt_of_lt_of_le hgl hz)).trans hcell
        have HHd : Hid (R = partsG false (q :: ps.drop (k + 1)) vs) := by show _ = _; rw [← hdrop]; exact hh.out
        cases h4 : rfour q with
        | none =>
          have HOr : Hid (rfour q = none ∨ false = false ∨ ps.drop (k + 1) ≠ []) := Or.inl h4
          simp only [numR]
          clear h4 hnil HF hcell
          rw [hdrop] at hh
          have hG := (HHd.out.trans (partsG_group HOr.out))
          have hqsz : (baS q).size = q.length := baS_len q
          obtain ⟨n, hn⟩ : ∃ n, q.length = n := ⟨_, rfl⟩
          rw [hn] at hqsz
          have hgl2 : g < w2.heap.size := Nat.lt_of_lt_of_le hgl B2.size
          by_cases hsmall : n < 1
          · have HN : Hid (R = none) := by
              show _ = _; rw [hG, show groupV q = none by unfold groupV; rw [if_pos (Or.inl (List.length_eq_zero_iff.1 (by omega)))]]
            have hs1 : (n : Int) < 1 := by omega
            clear hG hsmall hn
            go_wp2
            go_ret2
            refine ⟨below_next hbW B2, ?_⟩
            rw [HN.out]
            exact rfl
          · have hs1 : ¬ (n : Int) < 1 := by omega
            by_cases hbig : 4 < n
            · have HN : Hid (R = none) := by
                show _ = _; rw [hG, show groupV q = none by unfold groupV; rw [if_pos (Or.inr (by omega))]]
              have hs2 : (4 : Int) < n := by omega
              clear hG hsmall hn hbig
              go_wp2
              go_ret2
              refine ⟨below_next hbW B2, ?_⟩
              rw [HN.out]
              exact rfl
            · have hs2 : ¬ (4 : Int) < n := by omega
              have hgv : groupV q = hexM 0 q := by unfold groupV; rw [if_neg (by intro e; rcases e with e | e; rw [e] at hn; simp at hn; omega; omega)]
              rw [hgv] at hG
              have HG := Lib.hid hG
              clear hG hgv
              go_wp2
              go_loopw [11, 12] (fun nv jv wi => ∃ (acc j : Nat), nv = .int .u64 acc ∧ jv = .int .i64 j ∧ j ≤ n ∧ Hid (hexM 0 q = hexM acc (q.drop j) ∧ acc < 16 ^ j) ∧ wi = w2)
                (fun _ jv _ => n - (intOf jv).toNat)
              case atStart => exact ⟨0, 0, rfl, rfl, by omega, ⟨rfl, by decide⟩, rfl⟩
              case round =>
                obtain ⟨acc, j, rfl, rfl, hj, hx, rfl⟩ := hrel
                by_cases hjn : j < n
                · have hjn' : (j : Int) < n := by omega
                  have hjl : j < q.length := by omega
                  have hat := baS_at q j hjl
                  have hst := fun d h => hexM_step (acc := acc) hjl (d := d) h
                  have hsp := fun h => hexM_stop (acc := acc) hjl h
                  generalize q[j]'hjl = ch at hat hst hsp
                  have HH := Lib.hid (hex1_x ch)
                  cases hd : hexD ch with
                  | none =>
                    have HN : Hid (R = none) := by show _ = _; rw [HG.out, hx.out.1, hsp hd]
                    have hI : hexI ch = -1 := by unfold hexI; rw [hd]
                    rw [hI] at HH
                    clear hst hsp hd hI hx
                    go_wp2_with fail
                    refine (HH.out _).mono ?_
                    rintro e w3 ⟨rfl, rfl⟩
                    go_wp2
                    go_ret2
                    refine ⟨below_next hbW B2, ?_⟩
                    rw [HN.out]
                    exact rfl
                  | some d =>
                    have hI : hexI ch = (d : Int) := by unfold hexI; rw [hd]
                    rw [hI] at HH
                    have hd16 := hexD_lt hd
                    have hac : acc < 4096 := Nat.lt_of_lt_of_le hx.out.2 (Nat.le_trans (Nat.pow_le_pow_right (by decide) (show j ≤ 3 by omega)) (by decide))
                    have hor : bits .or .u64 (IntKind.u64.wrap ((acc : Int) * 16)) (d : Int) = ((acc * 16 + d : Nat) : Int) := by
                      rw [IntKind.wrap_u64, show ((acc : Int) * 16) % 18446744073709551616 = ((acc * 16 : Nat) : Int) by omega, u64_or _ _ (by omega) (by omega) (by omega) (by omega)]
                      simp only [Int.toNat_natCast]
                      rw [or_add 4 acc d hd16]
                    have HO := Lib.hid hor
                    have hpw : 16 ^ (j + 1) = 16 ^ j * 16 := Nat.pow_succ ..
                    have HX : Hid (hexM 0 q = hexM (acc * 16 + d) (q.drop (j + 1)) ∧ acc * 16 + d < 16 ^ (j + 1)) := ⟨by rw [hx.out.1, hst d hd], by have := hx.out.2; omega⟩
                    clear hst hsp hd hI hx hor hpw hac
                    go_wp2_with fail
                    refine (HH.out _).mono ?_
                    rintro e w3 ⟨rfl, rfl⟩
                    go_wp2
                    go_roundw
                    case rel => exact ⟨acc * 16 + d, j + 1, by rw [HO.out], by go_num, by omega, HX.out, by first | rfl | trivial⟩
                    case measure => simp [intOf]; omega
                · obtain rfl : j = n := by omega
                  have HN : Hid (R = partsG false (ps.drop (k + 1)) (vs ++ [acc])) := by
                    show _ = _; rw [HG.out, hx.out.1, List.drop_of_length_le (by omega)]; rfl
                  have hzz := below_next hbW B2
                  have hzs2 := B2.size
                  have hzs := hzz.size
                  have hjn' : ¬ (j : Int) < j := by omega
                  clear hx HG
                  go_wp2_with (at_builtin; refine wpList_append_lies _ (by rfl) _ _ 84 (by rfl) W.heap.size 23 i0 (.int .u64 0) 1 8 Tryz.underlying84 hi hz0 hz1 hz2 rfl (by decide) _ _ _ (by rfl) (hown2.alloc _) ⟨wr.heap.size, 0, none⟩ 1 1 [.int .u64 (acc : Int)] (by rfl) (by rfl) one_new (fun x hx => by simp at hx; subst hx; rfl) (by decide) (by unfold maxLen; omega) (by omega) (by simp; omega) (wr.heap.size + 1) (by simp) ?_)
                  intro g3 cap w4 hown4 hgrow hat4 hlt4
                  have B4 : Below W.heap.size W w4 := (B2.alloc B2.size _).grown hgrow (by simp; omega) (fun k hk => (hown2.lt k hk).1)
                  clear hgrow hat4
                  go_wp2
                  go_roundw
                  case rel => exact ⟨vs ++ [acc], k + 1, some ⟨g3, 0, none⟩, cap, by simp, by go_num, by omega, by simp; omega, HN.out, by simpa [valU] using hown4, B4⟩
                  case measure => simp [intOf]; omega
        | some v =>
          simp only [numR]
          have HOr : Hid (rfour q = none ∨ false = false ∨ ps.drop (k + 1) ≠ []) := Or.inr (Or.inl rfl)
          clear h4 hnil HF hcell
          rw [hdrop] at hh
          have hG := (HHd.out.trans (partsG_group HOr.out))
          have hqsz : (baS q).size = q.length := baS_len q
          obtain ⟨n, hn⟩ : ∃ n, q.length = n := ⟨_, rfl⟩
          rw [hn] at hqsz
          have hgl2 : g < w2.heap.size := Nat.lt_of_lt_of_le hgl B2.size
          by_cases hsmall : n < 1
          · have HN : Hid (R = none) := by
              show _ = _; rw [hG, show groupV q = none by unfold groupV; rw [if_pos (Or.inl (List.length_eq_zero_iff.1 (by omega)))]]
            have hs1 : (n : Int) < 1 := by omega
            clear hG hsmall hn
            go_wp2
            go_ret2
            refine ⟨below_next hbW B2, ?_⟩
            rw [HN.out]
            exact rfl
          · have hs1 : ¬ (n : Int) < 1 := by omega
            by_cases hbig : 4 < n
            · have HN : Hid (R = none) := by
                show _ = _; rw [hG, show groupV q = none by unfold groupV; rw [if_pos (Or.inr (by omega))]]
              have hs2 : (4 : Int) < n := by omega
              clear hG hsmall hn hbig
              go_wp2
              go_ret2
              refine ⟨below_next hbW B2, ?_⟩
              rw [HN.out]
              exact rfl
            · have hs2 : ¬ (4 : Int) < n := by omega
              have hgv : groupV q = hexM 0 q := by unfold groupV; rw [if_neg (by intro e; rcases e with e | e; rw [e] at hn; simp at hn; omega; omega)]
              rw [hgv] at hG
              have HG := Lib.hid hG
              clear hG hgv
              go_wp2
              go_loopw [11, 12] (fun nv jv wi => ∃ (acc j : Nat), nv = .int .u64 acc ∧ jv = .int .i64 j ∧ j ≤ n ∧ Hid (hexM 0 q = hexM acc (q.drop j) ∧ acc < 16 ^ j) ∧ wi = w2)
                (fun _ jv _ => n - (intOf jv).toNat)
              case atStart => exact ⟨0, 0, rfl, rfl, by omega, ⟨rfl, by decide⟩, rfl⟩
              case round =>
                obtain ⟨acc, j, rfl, rfl, hj, hx, rfl⟩ := hrel
                by_cases hjn : j < n
                · have hjn' : (j : Int) < n := by omega
                  have hjl : j < q.length := by omega
                  have hat := baS_at q j hjl
                  have hst := fun d h => hexM_step (acc := acc) hjl (d := d) h
                  have hsp := fun h => hexM_stop (acc := acc) hjl h
                  generalize q[j]'hjl = ch at hat hst hsp
                  have HH := Lib.hid (hex1_x ch)
                  cases hd : hexD ch with
                  | none =>
                    have HN : Hid (R = none) := by show _ = _; rw [HG.out, hx.out.1, hsp hd]
                    have hI : hexI ch = -1 := by unfold hexI; rw [hd]
                    rw [hI] at HH
                    clear hst hsp hd hI hx
                    go_wp2_with fail
                    refine (HH.out _).mono ?_
                    rintro e w3 ⟨rfl, rfl⟩
                    go_wp2
                    go_ret2
                    refine ⟨below_next hbW B2, ?_⟩
                    rw [HN.out]
                    exact rfl
                  | some d =>
                    have hI : hexI ch = (d : Int) := by unfold hexI; rw [hd]
                    rw [hI] at HH
                    have hd16 := hexD_lt hd
                    have hac : acc < 4096 := Nat.lt_of_lt_of_le hx.out.2 (Nat.le_trans (Nat.pow_le_pow_right (by decide) (show j ≤ 3 by omega)) (by decide))
                    have hor : bits .or .u64 (IntKind.u64.wrap ((acc : Int) * 16)) (d : Int) = ((acc * 16 + d : Nat) : Int) := by
                      rw [IntKind.wrap_u64, show ((acc : Int) * 16) % 18446744073709551616 = ((acc * 16 : Nat) : Int) by omega, u64_or _ _ (by omega) (by omega) (by omega) (by omega)]
                      simp only [Int.toNat_natCast]
                      rw [or_add 4 acc d hd16]
                    have HO := Lib.hid hor
                    have hpw : 16 ^ (j + 1) = 16 ^ j * 16 := Nat.pow_succ ..
                    have HX : Hid (hexM 0 q = hexM (acc * 16 + d) (q.drop (j + 1)) ∧ acc * 16 + d < 16 ^ (j + 1)) := ⟨by rw [hx.out.1, hst d hd], by have := hx.out.2; omega⟩
                    clear hst hsp hd hI hx hor hpw hac
                    go_wp2_with fail
                    refine (HH.out _).mono ?_
                    rintro e w3 ⟨rfl, rfl⟩
                    go_wp2
                    go_roundw
                    case rel => exact ⟨acc * 16 + d, j + 1, by rw [HO.out], by go_num, by omega, HX.out, by first | rfl | trivial⟩
                    case measure => simp [intOf]; omega
                · obtain rfl : j = n := by omega
                  have HN : Hid (R = partsG false (ps.drop (k + 1)) (vs ++ [acc])) := by
                    show _ = _; rw [HG.out, hx.out.1, List.drop_of_length_le (by omega)]; rfl
                  have hzz := below_next hbW B2
                  have hzs2 := B2.size
                  have hzs := hzz.size
                  have hjn' : ¬ (j : Int) < j := by omega
                  clear hx HG
                  go_wp2_with (at_builtin; refine wpList_append_lies _ (by rfl) _ _ 84 (by rfl) W.heap.size 23 i0 (.int .u64 0) 1 8 Tryz.underlying84 hi hz0 hz1 hz2 rfl (by decide) _ _ _ (by rfl) (hown2.alloc _) ⟨wr.heap.size, 0, none⟩ 1 1 [.int .u64 (acc : Int)] (by rfl) (by rfl) one_new (fun x hx => by simp at hx; subst hx; rfl) (by decide) (by unfold maxLen; omega) (by omega) (by simp; omega) (wr.heap.size + 1) (by simp) ?_)
                  intro g3 cap w4 hown4 hgrow hat4 hlt4
                  have B4 : Below W.heap.size W w4 := (B2.alloc B2.size _).grown hgrow (by simp; omega) (fun k hk => (hown2.lt k hk).1)
                  clear hgrow hat4
                  go_wp2
                  go_roundw
                  case rel => exact ⟨vs ++ [acc], k + 1, some ⟨g3, 0, none⟩, cap, by simp, by go_num, by omega, by simp; omega, HN.out, by simpa [valU] using hown4, B4⟩
                  case measure => simp [intOf]; omega
      · obtain rfl : k = M := by omega
        have HF : Hid (R = some vs) := by show _ = _; rw [hh.out, List.drop_of_length_le (by rw [HM.out]; omega)]; rfl
        have HO := Lib.hid (own_row hown)
        clear hh hown
        go_wp2
        go_ret2
        refine ⟨below_next hbW hb, ?_⟩
        rw [HF.out]
        exact ⟨p, cc, rfl, HO.out.1, HO.out.2⟩
end Go.Proofs.YtmnemjhkmllniaaGreatDoor
