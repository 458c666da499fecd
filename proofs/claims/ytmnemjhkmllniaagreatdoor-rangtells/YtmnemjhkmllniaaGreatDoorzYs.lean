/- The checker's own Split: what stands between a byte, in memory. -/
import Derived.Test.YtmnemjhkmllniaaGreatDoorzYw
import Derived.Test.YtmnemjhkmllniaaGreatDoorzPg
namespace Go.Proofs.YtmnemjhkmllniaaGreatDoor
open Go.ChangeShapes Go.WideShapes Go.RowKit Go.Sort

def valS (p : Bs) : Value := .string (baS p)
/-- The cells of block g, from its head on, are these texts. -/
def RowS (w : World) (g : Nat) (l : List Bs) : Prop := ∀ (j : Nat) (x : Bs), l[j]? = some x → w.cell? ⟨g, j, none⟩ = some (.string (baS x))
theorem RowS.below {w w' : World} {g : Nat} {l : List Bs} (h : RowS w g l) (hb : Below w.heap.size w w') (hg : g < w.heap.size) : RowS w' g l := fun j x hj => (olds hb g j hg).trans (h j x hj)
theorem rowS_own {w : World} {base g c : Nat} {l : List Bs} (h : w.ownsRow base 9 1 (.slice (some ⟨g, 0, none⟩) l.length c) l.length (l.map valS)) : RowS w g l := fun j x hj => by
  have hlt : j < l.length := (List.getElem?_eq_some_iff.1 hj).1
  rw [h.cellAt j (by omega), List.getElem?_map, hj]
  rfl
theorem infoSt : (Tryz.prog.info? 9).map (fun i => (i.zero, i.size, i.bytes)) = some (some (.string ⟨#[]⟩), 1, 16) := by kernel_rfl
/-- What Split hands back. -/
def SplitR (w : World) (l : List Bs) (e : Ending) (w' : World) : Prop := Below w.heap.size w w' ∧ ∃ g c, e = .returned (.slice (some ⟨g, 0, none⟩) l.length c) ∧ w.heap.size ≤ g ∧ g < w'.heap.size ∧ l.length ≤ c ∧ RowS w' g l
theorem baS_eq (b : ByteArray) (l : Bs) (h : b.data.toList = l) : b = baS l := by subst h; cases b; simp [baS]
theorem sliceMid (s : Bs) (f k : Nat) (h1 : f ≤ k) (h2 : k ≤ s.length) (V : World) : (Instr.slice 9 (.string (baS s)) (some (.int .i64 (f : Int))) (some (.int .i64 (k : Int))) none).run Tryz.prog V = .ok (.string (baS ((s.drop f).take (k - f)))) V := by
  rw [run_slice_string V 9 (baS s) .i64 .i64 (f : Int) (k : Int) Tryz.underlying9 (by omega) (by omega) (by rw [baS_len]; omega)]
  rw [baS_eq ((baS s).extract (f : Int).toNat (k : Int).toNat) ((s.drop f).take (k - f)) (by rw [Lib.extract_data]; simp [baS, List.take_drop])]
/-- In the middle of Split's loop. -/
def MidSp (z : UInt8) (l : Bs) (ps : List Bs) (f k : Nat) : Prop :=
  (k ≤ l.length → f ≤ k ∧ splitV z l = ps ++ splitA z ((l.drop f).take (k - f)) (l.drop k)) ∧ (l.length < k → ps ≠ [] ∧ splitV z l = ps) ∧ ps.length ≤ k
theorem midSp_cut {z : UInt8} {l : Bs} {ps : List Bs} {f k : Nat} (hk : k < l.length) (h : MidSp z l ps f k) (hz : l[k]'hk = z) : MidSp z l (ps ++ [(l.drop f).take (k - f)]) (k + 1) (k + 1) := by
  obtain ⟨h1, h2, h3⟩ := h
  obtain ⟨h1a, h1b⟩ := h1 (by omega)
  refine ⟨fun _ => ⟨Nat.le_refl _, ?_⟩, fun h => by omega, by simp; omega⟩
  rw [h1b, List.drop_eq_getElem_cons hk, hz]
  conv => lhs; unfold splitA
  rw [if_pos rfl]
  simp
theorem midSp_next {z : UInt8} {l : Bs} {ps : List Bs} {f k : Nat} (hk : k < l.length) (h : MidSp z l ps f k) (hz : l[k]'hk ≠ z) : MidSp z l ps f (k + 1) := by
  obtain ⟨h1, h2, h3⟩ := h
  obtain ⟨h1a, h1b⟩ := h1 (by omega)
  refine ⟨fun _ => ⟨by omega, ?_⟩, fun h => by omega, by omega⟩
  rw [h1b, List.drop_eq_getElem_cons hk]
  conv => lhs; unfold splitA
  rw [if_neg hz]
  congr 2
  rw [show k + 1 - f = (k - f) + 1 by omega, List.take_succ_eq_append_getElem (by rw [List.length_drop]; omega)]
  congr 2
  rw [List.getElem_drop]
  congr 1
  omega
theorem midSp_end {z : UInt8} {l : Bs} {ps : List Bs} {f : Nat} (h : MidSp z l ps f l.length) : MidSp z l (ps ++ [(l.drop f).take (l.length - f)]) (l.length + 1) (l.length + 1) := by
  obtain ⟨h1, h2, h3⟩ := h
  obtain ⟨h1a, h1b⟩ := h1 (by omega)
  refine ⟨fun h => by omega, fun _ => ⟨by simp, ?_⟩, by simp; omega⟩
  rw [h1b, List.drop_of_length_le (Nat.le_refl _)]
  rfl
set_option maxHeartbeats 8000000 in
set_option maxRecDepth 100000 in
theorem splitE_x (z : UInt8) (l : Bs) (w : World) (hl : l.length ≤ 100000) :
    Calls Tryz.prog 34 #[.string (baS l), .int .u8 z.toNat] w fun e w' => SplitR w (splitV z l) e w' := by
  obtain ⟨i0, hi, hz0, hz1, hz2⟩ := info_parts infoSt
  have hsz : (baS l).size = l.length := baS_len l
  obtain ⟨N, hN⟩ : ∃ N, l.length = N := ⟨_, rfl⟩
  rw [hN] at hsz hl
  have HN := Lib.hid hN
  go_enter Tryz.func34, Tryz.ntmps34
  go_wp2
  go_loopw [5, 6, 7] (fun v fv iv wr => ∃ (ps : List Bs) (f k : Nat) (p : Option Addr) (c : Nat), v = .slice p ps.length c ∧ fv = .int .i64 f ∧ iv = .int .i64 k ∧ k ≤ N + 1 ∧ f ≤ N + 1 ∧ ps.length ≤ N + 1 ∧ Hid (MidSp z l ps f k) ∧ wr.ownsRow w.heap.size 9 1 (.slice p ps.length c) ps.length (ps.map valS) ∧ Below w.heap.size w wr)
    (fun _ _ iv _ => N + 1 - (intOf iv).toNat)
  case atStart => exact ⟨[], 0, 0, none, 0, rfl, rfl, rfl, by omega, by omega, by simp, ⟨fun _ => ⟨by omega, by simp [splitV]⟩, fun h => by omega, by simp⟩, World.ownsRow_nil _ _ _ _, Below.refl _ _⟩
  case round =>
    obtain ⟨ps, f, k, p, c, rfl, rfl, rfl, hk, hf, hps, hh, hown, hb⟩ := hrel
    have hz := hb.size
    by_cases hkN : k ≤ N
    · have hkN' : (k : Int) ≤ N := by omega
      have hfk : f ≤ k := (hh.out.1 (by omega)).1
      by_cases hke : k = N
      · subst hke
        have hmid := Lib.hid (show MidSp z l (ps ++ [(l.drop f).take (k - f)]) (k + 1) (k + 1) by have h0 := hh.out; rw [← HN.out] at h0 ⊢; exact midSp_end h0)
        have hsl := sliceMid l f k hfk (by omega)
        obtain ⟨q, hq⟩ : ∃ q, (l.drop f).take (k - f) = q := ⟨_, rfl⟩
        rw [hq] at hsl hmid
        clear hq hh
        go_wp2_with (at_builtin; refine wpList_append_lies _ (by rfl) _ _ 38 (by rfl) w.heap.size 9 i0 (.string ⟨#[]⟩) 1 16 Tryz.underlying38 hi hz0 hz1 hz2 rfl (by decide) _ _ _ (by rfl) (hown.alloc _) ⟨wr.heap.size, 0, none⟩ 1 1 [.string (baS q)] (by rfl) (by rfl) one_new (fun x hx => by simp at hx; subst hx; rfl) (by decide) (by unfold maxLen; omega) (by omega) (by simp; omega) (wr.heap.size + 1) (by simp) ?_)
        intro g cap w3 hown3 hgrow hat hlt3
        have B3 : Below w.heap.size w w3 := (hb.alloc hz _).grown hgrow (by simp; omega) (fun k hk => (hown.lt k hk).1)
        clear hgrow hat
        go_wp2
        go_roundw
        case rel => exact ⟨ps ++ [q], k + 1, k + 1, some ⟨g, 0, none⟩, cap, by simp, by go_num, by go_num, by omega, by omega, by have := hmid.out.2.2; simp at this ⊢; omega, hmid.out, by simpa [valS] using hown3, B3⟩
        case measure => simp [intOf]
      · have hkl : k < l.length := by omega
        have hat := baS_at l k hkl
        have hcut := fun e => midSp_cut hkl hh.out e
        have hnext := fun e => midSp_next hkl hh.out e
        generalize l[k]'hkl = b at hat hcut hnext
        have hke' : ((k : Int) == N) = false := by rw [beq_eq_false_iff_ne]; omega
        have hkN1 : (k : Int) < N := by omega
        by_cases hbz : b = z
        · have hmid := Lib.hid (hcut hbz)
          have hsl := sliceMid l f k hfk (by omega)
          obtain ⟨q, hq⟩ : ∃ q, (l.drop f).take (k - f) = q := ⟨_, rfl⟩
          rw [hq] at hsl hmid
          have hbb : ((b.toNat : Int) == z.toNat) = true := by rw [hbz]; simp
          clear hq hh hcut hnext hbz hkl
          go_wp2_with (at_builtin; refine wpList_append_lies _ (by rfl) _ _ 38 (by rfl) w.heap.size 9 i0 (.string ⟨#[]⟩) 1 16 Tryz.underlying38 hi hz0 hz1 hz2 rfl (by decide) _ _ _ (by rfl) (hown.alloc _) ⟨wr.heap.size, 0, none⟩ 1 1 [.string (baS q)] (by rfl) (by rfl) one_new (fun x hx => by simp at hx; subst hx; rfl) (by decide) (by unfold maxLen; omega) (by omega) (by simp; omega) (wr.heap.size + 1) (by simp) ?_)
          intro g cap w3 hown3 hgrow hat hlt3
          have B3 : Below w.heap.size w w3 := (hb.alloc hz _).grown hgrow (by simp; omega) (fun k hk => (hown.lt k hk).1)
          clear hgrow hat
          go_wp2
          go_roundw
          case rel => exact ⟨ps ++ [q], k + 1, k + 1, some ⟨g, 0, none⟩, cap, by simp, by go_num, by go_num, by omega, by omega, by have := hmid.out.2.2; simp at this ⊢; omega, hmid.out, by simpa [valS] using hown3, B3⟩
          case measure => simp [intOf]; omega
        · have hmid := Lib.hid (hnext hbz)
          have hbb : ((b.toNat : Int) == z.toNat) = false := by
            rw [beq_eq_false_iff_ne]; intro e; exact hbz (UInt8.toNat_inj.1 (by simpa using Int.ofNat_inj.1 e))
          clear hh hcut hnext hbz hkl
          go_wp2
          go_roundw
          case rel => exact ⟨ps, f, k + 1, p, c, rfl, rfl, by go_num, by omega, by omega, hps, hmid.out, hown, hb⟩
          case measure => simp [intOf]; omega
    · obtain rfl : k = N + 1 := by omega
      have hkN' : ¬ ((N + 1 : Nat) : Int) ≤ N := by omega
      obtain ⟨hne, hF⟩ := hh.out.2.1 (by omega)
      have HF := Lib.hid hF
      obtain ⟨g, cap, cur, hv, hg1, hg2, hg3⟩ : ∃ g cap cur, Value.slice p ps.length c = .slice (some ⟨g, 0, none⟩) ps.length cap ∧ w.heap.size ≤ g ∧ wr.heap[g]? = some (.cells cur 9 (0, 0)) ∧ ps.length ≤ cap := by
        rcases hown.2 with ⟨_, h⟩ | ⟨g, cap, cur, a, b, c, d, _⟩
        · exact absurd (List.length_eq_zero_iff.1 h) hne
        · exact ⟨g, cap, cur, a, b, c, d⟩
      obtain ⟨rfl, rfl⟩ : p = some ⟨g, 0, none⟩ ∧ c = cap := by injection hv with a _ b; exact ⟨a, b⟩
      have hgl : g < wr.heap.size := by by_cases hx : g < wr.heap.size; exact hx; rw [Array.getElem?_eq_none (by omega)] at hg2; cases hg2
      have HR := Lib.hid (rowS_own hown)
      clear hv hF hne hown hg2 hh
      go_wp2
      go_ret
      refine ⟨hb, ?_⟩
      rw [HF.out]
      exact ⟨g, c, rfl, hg1, hgl, hg3, HR.out⟩
end Go.Proofs.YtmnemjhkmllniaaGreatDoor

/- The checker's own four: four numbers with a dot between. -/
namespace Go.Proofs.YtmnemjhkmllniaaGreatDoor
open Go.ChangeShapes Go.WideShapes Go.RowKit Go.Sort

theorem splitA_len (z : UInt8) : ∀ (s cur : Bs), ∀ p ∈ splitA z cur s, p.length ≤ cur.length + s.length
  | [], cur, p, hp => by simp [splitA] at hp; subst hp; simp
  | b :: r, cur, p, hp => by
    unfold splitA at hp
    split at hp
    · rcases List.mem_cons.1 hp with rfl | h
      · simp
      · have := splitA_len z r [] p h; simp at this ⊢; omega
    · have := splitA_len z r _ p hp; simp at this ⊢; omega
theorem splitV_len {z : UInt8} {s p : Bs} (h : p ∈ splitV z s) : p.length ≤ s.length := by have := splitA_len z s [] p h; simpa using this
theorem fourF_lt : ∀ (ps : List Bs) (acc n : Nat), fourF acc ps = some n → n < (acc + 1) * 256 ^ ps.length
  | [], acc, n, h => by simp [fourF] at h; simp; omega
  | p :: r, acc, n, h => by
    unfold fourF at h
    cases hn : numV 255 p with
    | none => rw [hn] at h; cases h
    | some d =>
      rw [hn] at h
      have := fourF_lt r _ n h
      have hd : d < 256 := by rw [← decV_num] at hn; exact decV_lt hn
      rw [List.length_cons, Nat.pow_succ]
      calc n < (acc * 256 + d + 1) * 256 ^ r.length := this
        _ ≤ ((acc + 1) * 256) * 256 ^ r.length := Nat.mul_le_mul_right _ (by omega)
        _ = (acc + 1) * (256 ^ r.length * 256) := by rw [Nat.mul_assoc, Nat.mul_comm 256]
theorem rowS_addr {w : World} {g : Nat} {l : List Bs} (h : RowS w g l) (j : Nat) (hj : j < l.length) : w.cell? ⟨g, j, none⟩ = some (.string (baS (l[j]'hj))) := h j _ (List.getElem?_eq_getElem hj)
set_option maxHeartbeats 8000000 in
set_option maxRecDepth 100000 in
theorem fourE_x (l : Bs) (w : World) (hl : l.length ≤ 100000) :
    Calls Tryz.prog 59 #[.string (baS l)] w fun e w' => e = .returned (numR (rfour l)) ∧ Below w.heap.size w w' := by
  have HSp := Lib.hid (splitE_x 46 l w hl)
  have HL := Lib.hid hl
  clear hl
  go_enter Tryz.func59, Tryz.ntmps59
  go_wp2_with fail
  refine HSp.out.mono ?_
  rintro e W ⟨hbW, g, c, rfl, hg0, hgl, hgc, hrow⟩
  have HPl : Hid (∀ p ∈ splitV 46 l, p.length < 4294967281) := fun p hp => by have := splitV_len hp; have := HL.out; omega
  have hR : rfour l = if (splitV 46 l).length = 4 then fourF 0 (splitV 46 l) else none := rfl
  have HR := Lib.hid hR
  have HRow := Lib.hid hrow
  clear hR hrow HSp
  generalize splitV 46 l = ps at *
  by_cases h4 : ps.length = 4
  · have h4' : ((ps.length : Int) != 4) = false := by simp; omega
    go_wp2
    go_loopw [5, 6] (fun qv iv wr => ∃ (acc k : Nat), qv = .int .u64 acc ∧ iv = .int .i64 k ∧ k ≤ 4 ∧ Hid (rfour l = fourF acc (ps.drop k) ∧ acc < 256 ^ k) ∧ Below W.heap.size W wr)
      (fun _ iv _ => 4 - (intOf iv).toNat)
    case atStart => exact ⟨0, 0, rfl, rfl, by omega, ⟨by rw [HR.out, if_pos h4, List.drop_zero], by decide⟩, Below.refl _ _⟩
    case round =>
      obtain ⟨acc, k, rfl, rfl, hk, hh, hb⟩ := hrel
      by_cases hk4 : k < 4
      · have hk4' : (k : Int) < 4 := by omega
        have hkp : k < ps.length := by omega
        have hcell := (olds hb g k hgl).trans (rowS_addr HRow.out k hkp)
        have hdrop : ps.drop k = ps[k]'hkp :: ps.drop (k + 1) := List.drop_eq_getElem_cons hkp
        have hlen := HPl.out _ (List.getElem_mem hkp)
        generalize ps[k]'hkp = p at hcell hdrop hlen
        have HN := Lib.hid (fun w => num_x p 255 w hlen (by decide))
        have hkps : (k : Int) < ps.length := by omega
        cases hn : numV 255 p with
        | none =>
          rw [hn] at HN
          have HF : Hid (rfour l = none) := by show _ = _; rw [hh.out.1, hdrop]; simp [fourF, hn]
          clear hh hdrop hn hlen
          go_wp2_with fail
          refine (HN.out _).mono ?_
          rintro e w2 ⟨rfl, rfl⟩
          simp only [numR]
          go_wp2
          go_ret2
          exact ⟨by rw [HF.out]; rfl, below_next hbW hb⟩
        | some d =>
          rw [hn] at HN
          have hd : d < 256 := by rw [← decV_num] at hn; exact decV_lt hn
          have hac : acc < 16777216 := Nat.lt_of_lt_of_le hh.out.2 (Nat.le_trans (Nat.pow_le_pow_right (by decide) (show k ≤ 3 by omega)) (by decide))
          have hor : bits .or .u64 (IntKind.u64.wrap ((acc : Int) * 256)) (d : Int) = ((acc * 256 + d : Nat) : Int) := by
            rw [IntKind.wrap_u64, show ((acc : Int) * 256) % 18446744073709551616 = ((acc * 256 : Nat) : Int) by omega, u64_or _ _ (by omega) (by omega) (by omega) (by omega)]
            simp only [Int.toNat_natCast]
            rw [or_add 8 acc d hd]
          have HO := Lib.hid hor
          have hp : 256 ^ (k + 1) = 256 ^ k * 256 := Nat.pow_succ ..
          have HF : Hid (rfour l = fourF (acc * 256 + d) (ps.drop (k + 1)) ∧ acc * 256 + d < 256 ^ (k + 1)) := ⟨by rw [hh.out.1, hdrop]; simp [fourF, hn], by have := hh.out.2; omega⟩
          clear hh hdrop hn hlen hor hp hac hd
          go_wp2_with fail
          refine (HN.out _).mono ?_
          rintro e w2 ⟨rfl, rfl⟩
          simp only [numR]
          go_wp2
          go_roundw
          case rel => exact ⟨acc * 256 + d, k + 1, by rw [HO.out], by go_num, by omega, HF.out, hb⟩
          case measure => simp [intOf]; omega
      · obtain rfl : k = 4 := by omega
        have HF : Hid (rfour l = some acc) := by show _ = _; rw [hh.out.1, List.drop_of_length_le (by omega)]; rfl
        clear hh
        go_wp2
        go_ret2
        exact ⟨by rw [HF.out]; rfl, below_next hbW hb⟩
  · have h4' : ((ps.length : Int) != 4) = true := by simp; omega
    have HF : Hid (rfour l = none) := by show _ = _; rw [HR.out, if_neg h4]
    go_wp2
    go_ret2
    exact ⟨by rw [HF.out]; rfl, hbW⟩
end Go.Proofs.YtmnemjhkmllniaaGreatDoor
