/- pref.parseLength, Parse and Print: every text is the prefix that it says, or none; every prefix has its text. -/
import Derived.Test.YtkmbfnjmgimlhaaGreatDoorzAm
import Derived.Test.YtkmbfnjmgimlhaaGreatDoorzPt
import Derived.Test.YtkmbfnjmgimlhaaGreatDoorzLa
namespace Go.Proofs.YtkmbfnjmgimlhaaGreatDoor
open Go.ChangeShapes Go.WideShapes Go.RowKit Go.Sort

theorem lenV_ok {l : Bs} {n : Nat} (h : lenV l = some n) : ¬ (1 < l.length ∧ l.head? = some 48) ∧ Lib.parseUintB 8 l = .ok n := by
  unfold lenV at h
  split at h
  · cases h
  · rename_i hc
    split at h
    · rename_i u hu
      cases h
      exact ⟨hc, hu⟩
    · cases h
theorem lenV_no {l : Bs} (h : lenV l = none) (h0 : ¬ (1 < l.length ∧ l.head? = some 48)) : ∀ u, Lib.parseUintB 8 l ≠ .ok u := by
  intro u hu
  unfold lenV at h
  rw [if_neg h0, hu] at h
  cases h
theorem lenV_lt {l : Bs} {n : Nat} (h : lenV l = some n) : n < 256 := by
  have hu := (lenV_ok h).2
  unfold Lib.parseUintB at hu
  split at hu
  · cases hu
  · have := parseUintM_le _ _ _ _ (by decide) hu
    omega
set_option maxHeartbeats 1000000 in
theorem len_ok (s : ByteArray) (n : Nat) (w : World) (hs : s.size < 4294967281) (h : lenV s.data.toList = some n) :
    Calls Tryz.prog 61 #[.string s] w fun e w' => e = .returned (.tuple #[.int .i64 n, .bool true]) ∧ Below w.heap.size w w' := by
  have hl := ba_len s
  obtain ⟨h0, hp⟩ := lenV_ok h
  have hn := lenV_lt h
  rw [hl] at h0
  have HI := Lib.hid (pu10_ok s n w hs hp)
  clear h hp hl hs
  by_cases h1 : 1 < s.size
  · have hh := head_byte s h1
    have hz : ¬ ((s[0]'(by omega)).toNat : Int) = 48 := by
      intro e
      refine h0 ⟨h1, ?_⟩
      rw [hh]
      congr 1
      exact UInt8.toNat_inj.1 (by simpa using Int.ofNat_inj.1 e)
    have hz' : (((s[0]'(by omega)).toNat : Int) == 48) = false := by simpa using hz
    have h1' : (1 : Int) < s.size := by omega
    have h1'' : 0 < s.size := by omega
    clear hh h0 hz
    go_enter Tryz.func61, Tryz.ntmps61
    go_wp2_with fail
    refine HI.out.mono ?_
    rintro e W1 ⟨rfl, hb⟩
    go_wp2
    go_quiet (fail)
    go_wp2
    go_ret2
    exact ⟨rfl, bdrew hb _⟩
  · have h1' : ¬ (1 : Int) < s.size := by omega
    clear h0
    go_enter Tryz.func61, Tryz.ntmps61
    go_wp2_with fail
    refine HI.out.mono ?_
    rintro e W1 ⟨rfl, hb⟩
    go_wp2
    go_quiet (fail)
    go_wp2
    go_ret2
    exact ⟨rfl, bdrew hb _⟩
/-- Some number, and false. -/
def NoLen (e : Ending) : Prop := ∃ u : Int, e = .returned (.tuple #[.int .i64 u, .bool false])
set_option maxHeartbeats 1000000 in
theorem len_no (s : ByteArray) (w : World) (hg : Gl w) (hs : s.size < 4294967281) (h : lenV s.data.toList = none) :
    Calls Tryz.prog 61 #[.string s] w fun e w' => NoLen e ∧ Below w.heap.size w w' := by
  have hl := ba_len s
  by_cases h1 : 1 < s.size
  · have h1' : (1 : Int) < s.size := by omega
    have h1'' : 0 < s.size := by omega
    have hh := head_byte s h1
    by_cases hz : (s[0]'(by omega)) = 48
    · have hz' : (((s[0]'(by omega)).toNat : Int) == 48) = true := by rw [hz]; rfl
      clear h hl hh hz
      go_enter Tryz.func61, Tryz.ntmps61
      go_wp2
      go_ret2
      exact ⟨⟨_, rfl⟩, Below.refl _ _⟩
    · have hz' : (((s[0]'(by omega)).toNat : Int) == 48) = false := by
        rw [beq_eq_false_iff_ne]; intro e; exact hz (UInt8.toNat_inj.1 (by simpa using Int.ofNat_inj.1 e))
      have HI := Lib.hid (pu10_no s w hg hs (lenV_no h (by rw [hh]; intro e; exact hz (by simpa using e.2))))
      clear h hl hh hz
      go_enter Tryz.func61, Tryz.ntmps61
      go_wp2_with fail
      refine HI.out.mono ?_
      rintro e W1 ⟨⟨u, N, rfl⟩, hb⟩
      go_wp2
      go_quiet (fail)
      go_wp2
      go_ret2
      exact ⟨⟨_, rfl⟩, bdrew hb _⟩
  · have h1' : ¬ (1 : Int) < s.size := by omega
    have HI := Lib.hid (pu10_no s w hg hs (lenV_no h (by omega)))
    clear h hl
    go_enter Tryz.func61, Tryz.ntmps61
    go_wp2_with fail
    refine HI.out.mono ?_
    rintro e W1 ⟨⟨u, N, rfl⟩, hb⟩
    go_wp2
    go_quiet (fail)
    go_wp2
    go_ret2
    exact ⟨⟨_, rfl⟩, bdrew hb _⟩
def prefR (r : Option (Nat × Nat × Nat)) : Value := match r with
  | some (v, x, n) => .tuple #[.agg #[.int .i64 v, .int .u64 (hiQ x), .int .u64 (loQ x), .int .i64 n], .bool true]
  | none => .tuple #[.agg #[.int .i64 0, .int .u64 0, .int .u64 0, .int .i64 0], .bool false]
set_option maxHeartbeats 4000000 in
set_option maxRecDepth 100000 in
theorem parseP_x (s : ByteArray) (w : World) (hg : Gl w) (hs : s.size < 4294967281) :
    Calls Tryz.prog 14 #[.string s] w fun e w' => e = .returned (prefR (prefV s.data.toList)) ∧ Below w.heap.size w w' := by
  have HS := Lib.hid hs
  obtain ⟨W, hW⟩ : ∃ W, W = w.alloc (.cells #[.int .i64 0, .int .u64 0, .int .u64 0, .int .i64 0] 30) := ⟨_, rfl⟩
  have HG : Hid (Gl W) := hW ▸ hg.alloc _
  have r0 : W.cell? ⟨w.heap.size, 0, none⟩ = some (.int .i64 0) := by rw [hW]; simp [go_sem]
  have r1 : W.cell? ⟨w.heap.size, 1, none⟩ = some (.int .u64 0) := by rw [hW]; simp [go_sem]
  have r2 : W.cell? ⟨w.heap.size, 2, none⟩ = some (.int .u64 0) := by rw [hW]; simp [go_sem]
  have r3 : W.cell? ⟨w.heap.size, 3, none⟩ = some (.int .i64 0) := by rw [hW]; simp [go_sem]
  have rf : ∀ o, W.frozen? ⟨w.heap.size, o, none⟩ = false := fun o => by rw [hW]; simp [go_sem]
  have lW : w.heap.size < W.heap.size := by rw [hW]; simp
  have BW : Below w.heap.size w W := hW ▸ (Below.refl _ _).alloc (Nat.le_refl _) _
  have HZ : Hid (W.cell? ⟨w.heap.size, 0, none⟩ = some (.int .i64 0) ∧ W.cell? ⟨w.heap.size, 1, none⟩ = some (.int .u64 0) ∧ W.cell? ⟨w.heap.size, 2, none⟩ = some (.int .u64 0) ∧ W.cell? ⟨w.heap.size, 3, none⟩ = some (.int .i64 0) ∧ ∀ o, W.frozen? ⟨w.heap.size, o, none⟩ = false) := ⟨r0, r1, r2, r3, rf⟩
  clear hs hg r0 r1 r2 r3 rf
  have hc1 := (cut_len s.data.toList [47]).1
  have hc2 := (cut_len s.data.toList [47]).2
  rw [ba_len] at hc1 hc2
  obtain ⟨A, hA⟩ : ∃ A, (Lib.cut s.data.toList [47]).1 = A := ⟨_, rfl⟩
  obtain ⟨B, hB⟩ : ∃ B, (Lib.cut s.data.toList [47]).2.1 = B := ⟨_, rfl⟩
  have HCut := cut_x s 47 W HG.out HS.out
  have hp : prefV s.data.toList = prefM (parseV A) (lenV B) := by unfold prefV; rw [hA, hB]
  rw [hA, hB] at HCut
  rw [hA] at hc1
  rw [hB] at hc2
  have HAB : Hid ((⟨A.toArray⟩ : ByteArray).size < 4294967281 ∧ (⟨B.toArray⟩ : ByteArray).size < 4294967281) := ⟨by rw [ba_size]; have := HS.out; omega, by rw [ba_size]; have := HS.out; omega⟩
  have HC := Lib.hid HCut
  have HP := Lib.hid hp
  clear hc1 hc2 hA hB HCut hp
  generalize (Lib.cut s.data.toList [47]).2.2 = fnd at HC
  go_enter Tryz.func14, Tryz.ntmps14
  go_wp2_with fail
  rw [← hW]
  clear hW
  refine HC.out.mono ?_
  rintro e w1 ⟨rfl, hb1⟩
  have G1 := HG.out.below hb1
  cases ha : parseV A with
  | none =>
    have HA : Hid (parseV (⟨A.toArray⟩ : ByteArray).data.toList = none) := ha
    have HR : Hid (prefV s.data.toList = none) := by show _ = _; rw [HP.out, ha]; rfl
    clear ha HP
    go_wp2_with fail
    refine (parse_none ⟨A.toArray⟩ _ G1 HAB.out.1 HA.out).mono ?_
    rintro e w2 ⟨rfl, hb2⟩
    have G2 := G1.below hb2
    have B2 := ball (o := .cells #[.int .i64 0, .int .u64 0, .int .u64 0] 28) (below_next hb1 hb2)
    cases hl : lenV B with
    | none =>
      have HL : Hid (lenV (⟨B.toArray⟩ : ByteArray).data.toList = none) := hl
      clear hl
      go_wp2_with fail
      refine (len_no ⟨B.toArray⟩ _ (G2.alloc _) HAB.out.2 HL.out).mono ?_
      rintro e w3 ⟨⟨u, rfl⟩, hb3⟩
      have C3 := (cl_new w2 0 0 0).below hb3
      have B3 := below_next B2 hb3
      obtain ⟨k2, f2, j2⟩ := keepf B3 w.heap.size lW
      obtain ⟨r0, r1, r2, r3, rf⟩ := HZ.out
      have s0 := (k2 0).trans r0
      have s1 := (k2 1).trans r1
      have s2 := (k2 2).trans r2
      have s3 := (k2 3).trans r3
      have sf : ∀ o, w3.frozen? ⟨w.heap.size, o, none⟩ = false := fun o => (f2 o).trans (rf o)
      obtain ⟨c0, c1, c2, cl⟩ := C3
      have BB := below_next BW B3
      clear k2 f2 r0 r1 r2 r3 rf hb1 hb2 hb3 B2 B3 G1 G2
      go_wp2
      exact bodyPost_ret (v := .tuple #[.agg #[.int .i64 0, .int .u64 0, .int .u64 0, .int .i64 0], .bool false]) (by simp [results, Tryz.results14, go_sem, *]) rfl ⟨by rw [HR.out]; rfl, by first | exact ball (pset4 BB (by omega)) | exact pset4 (ball BB) (by omega)⟩
    | some n =>
      have HL : Hid (lenV (⟨B.toArray⟩ : ByteArray).data.toList = some n) := hl
      clear hl
      go_wp2_with fail
      refine (len_ok ⟨B.toArray⟩ n _ HAB.out.2 HL.out).mono ?_
      rintro e w3 ⟨rfl, hb3⟩
      have C3 := (cl_new w2 0 0 0).below hb3
      have B3 := below_next B2 hb3
      obtain ⟨k2, f2, j2⟩ := keepf B3 w.heap.size lW
      obtain ⟨r0, r1, r2, r3, rf⟩ := HZ.out
      have s0 := (k2 0).trans r0
      have s1 := (k2 1).trans r1
      have s2 := (k2 2).trans r2
      have s3 := (k2 3).trans r3
      have sf : ∀ o, w3.frozen? ⟨w.heap.size, o, none⟩ = false := fun o => (f2 o).trans (rf o)
      obtain ⟨c0, c1, c2, cl⟩ := C3
      have BB := below_next BW B3
      clear k2 f2 r0 r1 r2 r3 rf hb1 hb2 hb3 B2 B3 G1 G2
      go_wp2
      exact bodyPost_ret (v := .tuple #[.agg #[.int .i64 0, .int .u64 0, .int .u64 0, .int .i64 0], .bool false]) (by simp [results, Tryz.results14, go_sem, *]) rfl ⟨by rw [HR.out]; rfl, by first | exact ball (pset4 BB (by omega)) | exact pset4 (ball BB) (by omega)⟩
  | some vx =>
    obtain ⟨v, x⟩ := vx
    have HA : Hid (parseV (⟨A.toArray⟩ : ByteArray).data.toList = some (v, x)) := ha
    have HX := Lib.hid (parseV_ok ha).2.1
    go_wp2_with fail
    refine (parse_some ⟨A.toArray⟩ v x _ G1 HAB.out.1 HA.out).mono ?_
    rintro e w2 ⟨rfl, hb2⟩
    have G2 := G1.below hb2
    have B2 := ball (o := .cells #[.int .i64 v, .int .u64 (hiQ x), .int .u64 (loQ x)] 28) (below_next hb1 hb2)
    cases hl : lenV B with
    | none =>
      have HL : Hid (lenV (⟨B.toArray⟩ : ByteArray).data.toList = none) := hl
      have HR : Hid (prefV s.data.toList = none) := by show _ = _; rw [HP.out, ha, hl]; rfl
      clear ha HP hl
      go_wp2_with fail
      refine (len_no ⟨B.toArray⟩ _ (G2.alloc _) HAB.out.2 HL.out).mono ?_
      rintro e w3 ⟨⟨u, rfl⟩, hb3⟩
      have C3 := (cl_new w2 v (hiQ x) (loQ x)).below hb3
      have B3 := below_next B2 hb3
      obtain ⟨k2, f2, j2⟩ := keepf B3 w.heap.size lW
      obtain ⟨r0, r1, r2, r3, rf⟩ := HZ.out
      have s0 := (k2 0).trans r0
      have s1 := (k2 1).trans r1
      have s2 := (k2 2).trans r2
      have s3 := (k2 3).trans r3
      have sf : ∀ o, w3.frozen? ⟨w.heap.size, o, none⟩ = false := fun o => (f2 o).trans (rf o)
      obtain ⟨c0, c1, c2, cl⟩ := C3
      have BB := below_next BW B3
      clear k2 f2 r0 r1 r2 r3 rf hb1 hb2 hb3 B2 B3 G1 G2
      go_wp2
      exact bodyPost_ret (v := .tuple #[.agg #[.int .i64 0, .int .u64 0, .int .u64 0, .int .i64 0], .bool false]) (by simp [results, Tryz.results14, go_sem, *]) rfl ⟨by rw [HR.out]; rfl, by first | exact ball (pset4 BB (by omega)) | exact pset4 (ball BB) (by omega)⟩
    | some n =>
      have HL : Hid (lenV (⟨B.toArray⟩ : ByteArray).data.toList = some n) := hl
      have hR : prefV s.data.toList = if okP v x n = true then some (v, x, n) else none := by rw [HP.out, ha, hl]; rfl
      clear ha HP hl
      go_wp2_with fail
      refine (len_ok ⟨B.toArray⟩ n _ HAB.out.2 HL.out).mono ?_
      rintro e w3 ⟨rfl, hb3⟩
      have C3 := (cl_new w2 v (hiQ x) (loQ x)).below hb3
      have B3 := below_next B2 hb3
      obtain ⟨c0, c1, c2, cl⟩ := C3
      have B4 := ball (o := .cells #[.int .i64 v, .int .u64 (hiQ x), .int .u64 (loQ x), .int .i64 n] 30) B3
      clear hb1 hb2 hb3 B2 B3 G1 G2
      obtain ⟨b, hb⟩ : ∃ b, okP v x n = b := ⟨_, rfl⟩
      rw [hb] at hR
      have HR := Lib.hid hR
      have HB := Lib.hid hb
      clear hR hb
      cases b
      · go_wp2_with fail
        refine (okPref_is _ _ _ _ HX.out _ HB.out).mono ?_
        rintro e w4 ⟨rfl, hb4⟩
        have B5 := below_next B4 hb4
        obtain ⟨k2, f2, j2⟩ := keepf B5 w.heap.size lW
        obtain ⟨r0, r1, r2, r3, rf⟩ := HZ.out
        have s0 := (k2 0).trans r0
        have s1 := (k2 1).trans r1
        have s2 := (k2 2).trans r2
        have s3 := (k2 3).trans r3
        have sf : ∀ o, w4.frozen? ⟨w.heap.size, o, none⟩ = false := fun o => (f2 o).trans (rf o)
        have BB := below_next BW B5
        clear k2 f2 r0 r1 r2 r3 rf hb4 B4 B5
        go_wp2
        exact bodyPost_ret (v := .tuple #[.agg #[.int .i64 0, .int .u64 0, .int .u64 0, .int .i64 0], .bool false]) (by simp [results, Tryz.results14, go_sem, *]) rfl ⟨by rw [HR.out]; rfl, by first | exact ball (pset4 BB (by omega)) | exact pset4 (ball BB) (by omega) | exact pset4 BB (by omega)⟩
      · go_wp2_with fail
        refine (okPref_is _ _ _ _ HX.out _ HB.out).mono ?_
        rintro e w4 ⟨rfl, hb4⟩
        have B5 := below_next B4 hb4
        have P4 := (pl_new w3 v (hiQ x) (loQ x) n).below hb4
        obtain ⟨k2, f2, j2⟩ := keepf B5 w.heap.size lW
        obtain ⟨r0, r1, r2, r3, rf⟩ := HZ.out
        have s0 := (k2 0).trans r0
        have s1 := (k2 1).trans r1
        have s2 := (k2 2).trans r2
        have s3 := (k2 3).trans r3
        have sf : ∀ o, w4.frozen? ⟨w.heap.size, o, none⟩ = false := fun o => (f2 o).trans (rf o)
        have BB := below_next BW B5
        obtain ⟨p0, p1, p2, p3, pl⟩ := P4
        clear k2 f2 r0 r1 r2 r3 rf hb4 B4 B5
        go_wp2
        exact bodyPost_ret (v := .tuple #[.agg #[.int .i64 v, .int .u64 (hiQ x), .int .u64 (loQ x), .int .i64 n], .bool true]) (by simp [results, Tryz.results14, go_sem, *]) rfl ⟨by rw [HR.out]; rfl, by first | exact ball (pset4 BB (by omega)) | exact pset4 (ball BB) (by omega) | exact pset4 BB (by omega)⟩
end Go.Proofs.YtkmbfnjmgimlhaaGreatDoor
