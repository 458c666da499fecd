/- Package json: number. -/
import Derived.Test.YtgiihljiekagdaaDoorKq
namespace Go.Proofs.YtgiihljiekagdaaDoor
open Go.ChangeShapes Go.WideShapes Go.RowKit Go.Sort
theorem ne_toList {a b : Bs} (h : a ≠ b) : ((baS a).toList == (baS b).toList) = false := by
  have e : ∀ l : Bs, (baS l).toList = l := fun l => by rw [Lib.toList_data]; simp [baS]
  rw [e, e]
  simpa using h
theorem below_grown (w : World) (k : Nat) (os : Array Obj) : Below w.heap.size w (grow (w.drewN k) os) :=
  ⟨rfl, rfl, rfl, by simp [grow], fun k hk => by simp [grow, Array.getElem?_append, hk]⟩
theorem format_x (x : Int) (h1 : -2 ^ 63 ≤ x) (h2 : x < 2 ^ 63) (w : World) (hg : Gl w) : Calls Tryd.prog 46 #[.int .i64 x, .int .i64 10] w fun e w' => e = .returned (.string (baS (Lib.itoa x))) ∧ Below w.heap.size w w' :=
  (Tryd.strconv_FormatInt_10 x (by omega) (by omega) w hg.p10).mono fun e w' hh => by
    obtain ⟨rfl, k, os, rfl⟩ := hh
    exact ⟨rfl, below_grown _ _ _⟩
theorem parseok_x (t : Bs) (x : Int) (ht : t.length ≤ 1000000) (h : Lib.parseIntB 64 t = .ok x) (w : World) : Calls Tryd.prog 45 #[.string (baS t), .int .i64 10, .int .i64 64] w fun e w' => e = .returned (.tuple #[.int .i64 x, .nilIface]) ∧ Below w.heap.size w w' :=
  (Tryd.strconv_ParseInt_10_at64_ok (baS t) (by rw [baS_size]; omega) x (by simpa [baS] using h) w).mono fun e w' hh => ⟨hh.1, by rcases hh.2 with rfl | ⟨t, rfl⟩; exact Below.refl _ _; exact Lib.bytesWorld_below _ _ _⟩
theorem parseno_x (t : Bs) (ht : t.length ≤ 1000000) (h : Lib.parseIntB 64 t = .«syntax» ∨ Lib.parseIntB 64 t = .range) (w : World) (hg : Gl w) : Calls Tryd.prog 45 #[.string (baS t), .int .i64 10, .int .i64 64] w fun e w' => (∃ (v : Int) (N : Nat), e = .returned (.tuple #[.int .i64 v, .iface 108 (.pointer (some ⟨N, 0, none⟩))])) ∧ Below w.heap.size w w' := by
  rcases h with h | h
  · obtain ⟨ev, h1, h2⟩ := hg.es
    exact (Tryd.strconv_ParseInt_10_at64_syntax (baS t) (by rw [baS_size]; omega) (by simpa [baS] using h) ev w h1 h2).mono fun e w' hh => by
      obtain ⟨N, a, _, _, b⟩ := hh
      exact ⟨⟨_, N, a⟩, b⟩
  · obtain ⟨ev, h1, h2⟩ := hg.er
    exact (Tryd.strconv_ParseInt_10_at64_range (baS t) (by rw [baS_size]; omega) (by simpa [baS] using h) ev w h1 h2).mono fun e w' hh => by
      obtain ⟨N, a, _, _, b⟩ := hh
      exact ⟨⟨_, N, a⟩, b⟩
theorem tw_yes {l : Bs} {j : Nat} {y : UInt8} (h : l[j]? = some y) (ht : tailJ y = true) : (l.drop j).takeWhile tailJ = y :: (l.drop (j + 1)).takeWhile tailJ ∧ (l.drop j).dropWhile tailJ = (l.drop (j + 1)).dropWhile tailJ := by
  rw [drop_at h]; simp [ht]
theorem tw_no {l : Bs} {j : Nat} (h : ∀ y, l[j]? = some y → tailJ y = false) : (l.drop j).takeWhile tailJ = [] ∧ (l.drop j).dropWhile tailJ = l.drop j := by
  cases hg : l[j]? with
  | none => rw [List.drop_eq_nil_of_le (List.getElem?_eq_none_iff.1 hg)]; exact ⟨rfl, rfl⟩
  | some y => rw [drop_at hg]; simp [h y hg]
theorem take_next {l : Bs} {i j : Nat} {y : UInt8} (hij : i ≤ j) (h : l[j]? = some y) : (l.drop i).take (j + 1 - i) = (l.drop i).take (j - i) ++ [y] := by
  have e : j + 1 - i = (j - i) + 1 := by omega
  rw [e, List.take_add_one, List.getElem?_drop, show i + (j - i) = j by omega, h]
  rfl
/-- Six cells of a block of the call's own. -/
structure Six (w : World) (J : Nat) (c0 c1 c2 c3 c4 c5 : Value) : Prop where
  k0 : w.cell? ⟨J, 0, none⟩ = some c0
  k1 : w.cell? ⟨J, 1, none⟩ = some c1
  k2 : w.cell? ⟨J, 2, none⟩ = some c2
  k3 : w.cell? ⟨J, 3, none⟩ = some c3
  k4 : w.cell? ⟨J, 4, none⟩ = some c4
  k5 : w.cell? ⟨J, 5, none⟩ = some c5
  fz : ∀ o, w.frozen? ⟨J, o, none⟩ = false
  lt : J < w.heap.size
theorem Six.but {w w' : World} {R J : Nat} {c0 c1 c2 c3 c4 c5 : Value} (h : Six w J c0 c1 c2 c3 c4 c5) (hb : But R w w') (hR : J ≠ R) : Six w' J c0 c1 c2 c3 c4 c5 := by
  obtain ⟨k, f, m⟩ := hb.keep J h.lt hR
  exact ⟨(k 0).trans h.k0, (k 1).trans h.k1, (k 2).trans h.k2, (k 3).trans h.k3, (k 4).trans h.k4, (k 5).trans h.k5, fun o => (f o).trans (h.fz o), m⟩
theorem Six.below {w w' : World} {J : Nat} {c0 c1 c2 c3 c4 c5 : Value} (h : Six w J c0 c1 c2 c3 c4 c5) (hb : Below w.heap.size w w') : Six w' J c0 c1 c2 c3 c4 c5 := by
  obtain ⟨k, f, m⟩ := keepf hb J h.lt
  exact ⟨(k 0).trans h.k0, (k 1).trans h.k1, (k 2).trans h.k2, (k 3).trans h.k3, (k 4).trans h.k4, (k 5).trans h.k5, fun o => (f o).trans (h.fz o), m⟩
/-- The zero value, just laid. -/
theorem Six.zero (w : World) : Six (w.alloc (.cells #[.int .i64 0, .int .i64 0, .string { data := #[] }, .slice none 0 0, .slice none 0 0, .int .i64 0] 26)) w.heap.size (.int .i64 0) (.int .i64 0) (.string { data := #[] }) (.slice none 0 0) (.slice none 0 0) (.int .i64 0) :=
  ⟨by simp [go_sem], by simp [go_sem], by simp [go_sem], by simp [go_sem], by simp [go_sem], by simp [go_sem], fun o => by simp [go_sem], by simp [go_sem]⟩
/-- Six stores. -/
def put6 (w : World) (J : Nat) (a0 a1 a2 a3 a4 a5 : Value) : World := (((((w.setCell ⟨J, 0, none⟩ a0).setCell ⟨J, 1, none⟩ a1).setCell ⟨J, 2, none⟩ a2).setCell ⟨J, 3, none⟩ a3).setCell ⟨J, 4, none⟩ a4).setCell ⟨J, 5, none⟩ a5
theorem Six.put {w : World} {J : Nat} {c0 c1 c2 c3 c4 c5 : Value} (h : Six w J c0 c1 c2 c3 c4 c5) (a0 a1 a2 a3 a4 a5 : Value) : Six (put6 w J a0 a1 a2 a3 a4 a5) J a0 a1 a2 a3 a4 a5 := by
  have oth : ∀ (w : World) (i j : Nat) (a : Value), i ≠ j → (w.setCell ⟨J, i, none⟩ a).cell? ⟨J, j, none⟩ = w.cell? ⟨J, j, none⟩ := fun w i j a hne => World.cell?_setCell_other _ _ _ _ (by simp)
  have sm : ∀ (w : World) (i : Nat) (a u : Value), w.cell? ⟨J, i, none⟩ = some u → (w.setCell ⟨J, i, none⟩ a).cell? ⟨J, i, none⟩ = some a := fun w i a u hu => World.cell?_setCell_same _ _ _ hu
  refine ⟨?_, ?_, ?_, ?_, ?_, ?_, fun o => ?_, ?_⟩
  · rw [put6, oth _ 5 0 _ (by decide), oth _ 4 0 _ (by decide), oth _ 3 0 _ (by decide), oth _ 2 0 _ (by decide), oth _ 1 0 _ (by decide)]; exact sm _ _ _ _ h.k0
  · rw [put6, oth _ 5 1 _ (by decide), oth _ 4 1 _ (by decide), oth _ 3 1 _ (by decide), oth _ 2 1 _ (by decide)]; exact sm _ _ _ _ ((oth _ 0 1 _ (by decide)).trans h.k1)
  · rw [put6, oth _ 5 2 _ (by decide), oth _ 4 2 _ (by decide), oth _ 3 2 _ (by decide)]; exact sm _ _ _ _ ((oth _ 1 2 _ (by decide)).trans ((oth _ 0 2 _ (by decide)).trans h.k2))
  · rw [put6, oth _ 5 3 _ (by decide), oth _ 4 3 _ (by decide)]; exact sm _ _ _ _ ((oth _ 2 3 _ (by decide)).trans ((oth _ 1 3 _ (by decide)).trans ((oth _ 0 3 _ (by decide)).trans h.k3)))
  · rw [put6, oth _ 5 4 _ (by decide)]; exact sm _ _ _ _ ((oth _ 3 4 _ (by decide)).trans ((oth _ 2 4 _ (by decide)).trans ((oth _ 1 4 _ (by decide)).trans ((oth _ 0 4 _ (by decide)).trans h.k4))))
  · rw [put6]; exact sm _ _ _ _ ((oth _ 4 5 _ (by decide)).trans ((oth _ 3 5 _ (by decide)).trans ((oth _ 2 5 _ (by decide)).trans ((oth _ 1 5 _ (by decide)).trans ((oth _ 0 5 _ (by decide)).trans h.k5)))))
  · unfold put6
    rw [World.frozen?_setCell, World.frozen?_setCell, World.frozen?_setCell, World.frozen?_setCell, World.frozen?_setCell, World.frozen?_setCell]
    exact h.fz o
  · have := h.lt; simpa [put6, World.setCell] using this
theorem but_put {R J : Nat} {a w : World} (h : But R a w) (hJ : a.heap.size ≤ J) (a0 a1 a2 a3 a4 a5 : Value) : But R a (put6 w J a0 a1 a2 a3 a4 a5) :=
  (((((h.new hJ _).new hJ _).new hJ _).new hJ _).new hJ _).new hJ _
theorem rd_put {n b o c R J : Nat} {w : World} {i : Nat} {k a : Int} (h : Rd n b o c R w i k a) (hJ : R < J) (a0 a1 a2 a3 a4 a5 : Value) : Rd n b o c R (put6 w J a0 a1 a2 a3 a4 a5) i k a :=
  h.low ((((((((Below.refl J w).setCell (p := ⟨J, 0, none⟩) (Nat.le_refl _) a0).setCell (p := ⟨J, 1, none⟩) (Nat.le_refl _) a1).setCell (p := ⟨J, 2, none⟩) (Nat.le_refl _) a2).setCell (p := ⟨J, 3, none⟩) (Nat.le_refl _) a3).setCell (p := ⟨J, 4, none⟩) (Nat.le_refl _) a4).setCell (p := ⟨J, 5, none⟩) (Nat.le_refl _) a5)) hJ
/-- A number that begins at i: it, or none. -/
def numP (l : Bs) (i : Nat) : PJ Js :=
  match numJ ((l.drop i).takeWhile tailJ) with
  | none => .bad 1 i
  | some n => .ok (.mk 4 n [] [] [] 0) (i + ((l.drop i).takeWhile tailJ).length) ((l.drop i).dropWhile tailJ)
set_option maxHeartbeats 8000000 in
set_option maxRecDepth 100000 in
theorem number_x {l : Bs} {b o c R : Nat} {w : World} {i : Nat} (hs : Src l b o c R w) (h : Rd l.length b o c R w i 0 0) (hi : i ≤ l.length) (n : Nat) :
    Calls Tryd.prog 35 #[.pointer (some ⟨R, 0, none⟩)] w fun e w' => ValP (n + 1) l b o c R w (numP l i) e w' := by
  have HS := Lib.hid hs
  have HR := Lib.hid h
  have hsm := hs.small
  have hcap := hs.cap
  have hRw := h.lt
  obtain ⟨c0, c1, c2, c3, fz, lt⟩ := h
  clear hs
  go_enter Tryd.func35, Tryd.ntmps35
  go_wp2_with fail
  have Z0 := Lib.hid (Six.zero w)
  have B0 : Below w.heap.size w (w.alloc (.cells #[.int .i64 0, .int .i64 0, .string { data := #[] }, .slice none 0 0, .slice none 0 0, .int .i64 0] 26)) := ball (Below.refl _ _)
  have hJ : Hid (R < w.heap.size) := hRw
  generalize w.alloc (.cells #[.int .i64 0, .int .i64 0, .string { data := #[] }, .slice none 0 0, .slice none 0 0, .int .i64 0] 26) = w0 at *
  generalize hJJ : w.heap.size = J at *
  have HJJ := Lib.hid hJJ
  have B0' : But R w w0 := .of R (hJJ ▸ B0)
  have S0 := Lib.hid (HS.out.but B0')
  have R0 := Lib.hid (HR.out.below (hJJ ▸ B0))
  clear c0 c1 c2 c3 fz lt hJJ
  go_loopw [] (fun wr => ∃ j : Nat, But R w0 wr ∧ Rd l.length b o c R wr j 0 0 ∧ i ≤ j ∧ j ≤ l.length ∧ Hid ((l.drop i).takeWhile tailJ = (l.drop i).take (j - i) ++ (l.drop j).takeWhile tailJ ∧ (l.drop i).dropWhile tailJ = (l.drop j).dropWhile tailJ)) (fun wr => l.length + 2 - (intCell wr ⟨R, 1, none⟩).toNat)
  case atStart => exact ⟨i, But.refl _ _, R0.out, Nat.le_refl _, hi, Lib.hid ⟨by simp, rfl⟩⟩
  case round =>
    obtain ⟨j, hb, hr, hij, hj, hp⟩ := hrel
    have HRj := Lib.hid hr
    have hm0 := Lib.hid hr.ic
    obtain ⟨c0, c1, c2, c3, fz, lt⟩ := hr
    by_cases hlt : j < l.length
    · have hget := List.getElem?_eq_getElem hlt
      have hcell := (S0.out.but hb).byte hget
      have HX := Lib.hid (fun V => inNumber_x (l[j]'hlt) V)
      generalize hy : l[j]'hlt = y at *
      cases htl : tailJ y with
      | true =>
        obtain ⟨t1, t2⟩ := tw_yes hget htl
        have HP : Hid ((l.drop i).takeWhile tailJ = (l.drop i).take (j + 1 - i) ++ (l.drop (j + 1)).takeWhile tailJ ∧ (l.drop i).dropWhile tailJ = (l.drop (j + 1)).dropWhile tailJ) := ⟨by rw [hp.out.1, t1, take_next hij hget]; simp, by rw [hp.out.2, t2]⟩
        have HC : Hid (∀ V, Calls Tryd.prog 44 #[.int .u8 (y.toNat : Int)] V fun e w' => e = .returned (.bool true) ∧ Below V.heap.size V w') := Lib.hid (fun V => (HX.out V).mono fun e w' ⟨h1, h2⟩ => ⟨by rw [h1, htl], h2 ▸ Below.refl _ _⟩)
        have hw : IntKind.i64.wrap ((j : Int) + 1) = ((j + 1 : Nat) : Int) := by rw [IntKind.wrap_i64]; omega
        have HW := Lib.hid hw
        have hj1 : Hid (j + 1 ≤ l.length ∧ i ≤ j + 1 ∧ j < j + 1) := ⟨hlt, by omega, by omega⟩
        clear hp HX hget hy htl t1 t2 hw
        generalize j + 1 = j1 at *
        go_wp2_with fail
        have r0 := cell_regrown c0
        have r1 := cell_regrown c1
        have r2 := cell_regrown hcell
        clear c0 c1 c2 c3 fz lt hcell
        refine wp_region_quiet_below (by kernel_rfl) (by kernel_rfl) ?_
        repeat (go_big_quiet_step (first | (go_at_call 44; exact Calls.regrown_of (HC.out _))))
        refine wpQuiet_nil ?_
        intro _ hw'
        obtain ⟨⟨dq, osq⟩, hw''⟩ := hw'
        subst hw''
        have BR := below_regrown wr dq osq
        clear r0 r1 r2
        generalize grow (redrawn wr dq) osq = V at *
        have HV := Lib.hid (HRj.out.below BR)
        obtain ⟨d0, d1, d2, d3, dz, dl⟩ := HRj.out.below BR
        have hw := HW.out
        go_wp2_with fail
        refine ⟨⟨j1, (hb.trans (.of R BR)).set _ _, HV.out.at_ j1, hj1.out.2.1, hj1.out.1, HP⟩, ?_⟩
        rw [hm0.out, (HV.out.at_ j1).ic]
        have := hj1.out
        omega
      | false =>
        have hno : ∀ y, l[j]? = some y → tailJ y = false := fun z hz => by rw [hget] at hz; cases hz; exact hy ▸ htl
        obtain ⟨t1, t2⟩ := tw_no hno
        have hp : Hid ((l.drop i).takeWhile tailJ = (l.drop i).take (j - i) ∧ (l.drop i).dropWhile tailJ = l.drop j) := ⟨by rw [hp.out.1, t1]; simp, by rw [hp.out.2, t2]⟩
        have HC : Hid (∀ V, Calls Tryd.prog 44 #[.int .u8 (y.toNat : Int)] V fun e w' => e = .returned (.bool false) ∧ Below V.heap.size V w') := Lib.hid (fun V => (HX.out V).mono fun e w' ⟨h1, h2⟩ => ⟨by rw [h1, htl], h2 ▸ Below.refl _ _⟩)
        clear HX hget hy htl t1 t2 hno
        go_wp2_with fail
        have r0 := cell_regrown c0
        have r1 := cell_regrown c1
        have r2 := cell_regrown hcell
        clear c0 c1 c2 c3 fz lt hcell
        refine wp_region_quiet_below (by kernel_rfl) (by kernel_rfl) ?_
        repeat (go_big_quiet_step (first | (go_at_call 44; exact Calls.regrown_of (HC.out _))))
        refine wpQuiet_nil ?_
        intro _ hw'
        obtain ⟨⟨dq, osq⟩, hw''⟩ := hw'
        subst hw''
        have BR := below_regrown wr dq osq
        clear r2 HC
        clear r0 r1
        generalize grow (redrawn wr dq) osq = V at *
        have HV := Lib.hid (HRj.out.below BR)
        have BV : But R w0 V := hb.trans (.of R BR)
        have SV := Lib.hid (S0.out.but BV)
        obtain ⟨d0, d1, d2, d3, dz, dl⟩ := HRj.out.below BR
        obtain ⟨p, hp2⟩ : ∃ p, adv (some ⟨b, o, none⟩) c i = some ⟨b, p, none⟩ := by
          unfold adv; split
          · exact ⟨_, rfl⟩
          · simp only [Option.map_some, Addr.add]; split <;> exact ⟨_, rfl⟩
        have H2 : ∀ V : World, (Instr.slice 29 (.slice (some ⟨b, o, none⟩) l.length c) (some (.int .i64 (i : Int))) (some (.int .i64 (j : Int))) none).run Tryd.prog V = .ok (.slice (some ⟨b, p, none⟩) (j - i) (c - i)) V := fun V => by
          have := sl_lh (some ⟨b, o, none⟩) l.length c i j hij (by omega) V
          rwa [hp2] at this
        have htl2 : ((l.drop i).take (j - i)).length = j - i := by simp; omega
        have HB := Lib.hid (show BytesAt V (some ⟨b, p, none⟩) ((l.drop i).take (j - i)) from by
          have := (SV.out.bytes.drop c i SV.out.cap).take (j - i)
          rwa [hp2] at this)
        have hcv : ∀ (dq : Nat) (osq : Array Obj), (convert 29 9 (.slice (some ⟨b, p, none⟩) (j - i) (c - i))).run Tryd.prog (grow (redrawn V dq) osq) = .ok (.string (baS ((l.drop i).take (j - i)))) (grow (redrawn V dq) osq) := fun dq osq => by
          have := conv_bytes (c - i) (HB.out.below (below_regrown V dq osq))
          rwa [htl2] at this
        have HN := Lib.hid (num_cases ((l.drop i).take (j - i)))
        have hle : ((l.drop i).take (j - i)).length ≤ 1000000 := by rw [htl2]; omega
        have HLE := Lib.hid hle
        have HPN : Hid (numP l i = match numJ ((l.drop i).take (j - i)) with | none => .bad 1 i | some n => .ok (.mk 4 n [] [] [] 0) j (l.drop j)) := Lib.hid (by
          unfold numP
          rw [hp.out.1, hp.out.2, htl2, show i + (j - i) = j by omega])
        clear hp hp2 htl2 hle hm0
        generalize (l.drop i).take (j - i) = told at *
        go_wp2_with fail
        have r0 := cell_regrown d0
        have r1 := cell_regrown d1
        clear d0 d1 d2 d3 dz dl
        refine wp_region_quiet_below (by kernel_rfl) (by kernel_rfl) ?_
        repeat (go_big_quiet_step (fail))
        refine wpQuiet_nil ?_
        intro _ hw'
        obtain ⟨⟨dq2, osq2⟩, hw''⟩ := hw'
        subst hw''
        have BR2 := below_next BR (below_regrown V dq2 osq2)
        clear r0 r1 H2 hcv HB HV
        generalize grow (redrawn V dq2) osq2 = V2 at *
        rcases HN.out with ⟨x, n1, n2, n3, n4, n5⟩ | ⟨n1, hx⟩
        · have HPN2 : Hid (numP l i = .ok (.mk 4 x [] [] [] 0) j (l.drop j)) := Lib.hid (by rw [HPN.out, n1])
          have N3 := Lib.hid n3
          have HQ := Lib.hid (parseok_x told x HLE.out n2 V2)
          have HF : Hid (∀ V, Below wr.heap.size wr V → Calls Tryd.prog 46 #[.int .i64 x, .int .i64 10] V fun e w' => e = .returned (.string (baS told)) ∧ Below V.heap.size V w') := fun V hV => by
            have := format_x x n4 n5 V ((S0.out.but (hb.trans (.of R hV))).gl)
            rwa [n3] at this
          clear n1 n2 n3 n4 n5 HN HPN
          go_wp2_with fail
          refine HQ.out.mono ?_
          rintro e w5 ⟨rfl, B5⟩
          have B6 := below_next BR2 B5
          clear HQ
          go_wp2_with fail
          refine (HF.out _ B6).mono ?_
          rintro e w6 ⟨rfl, B7⟩
          have B8 := below_next B6 B7
          clear HF
          have H6 := Lib.hid (HRj.out.below B8)
          have ZZ := Lib.hid ((Z0.out.but hb (by have := hJ.out; omega)).below B8)
          obtain ⟨z0, z1, z2, z3, z4, z5, zf, zl⟩ := (Z0.out.but hb (by have := hJ.out; omega)).below B8
          obtain ⟨y0, y1, y2, y3, y4, y5, yf, yl⟩ := ZZ.out.put (.int .i64 4) (.int .i64 x) (.string { data := #[] }) (.slice none 0 0) (.slice none 0 0) (.int .i64 0)
          unfold put6 at y0 y1 y2 y3 y4 y5
          have BE : But R w w6 := B0'.trans (hb.trans (.of R B8))
          have HJ2 : Hid (w.heap.size ≤ J) := Lib.hid (by rw [HJJ.out]; exact Nat.le_refl _)
          go_wp2_with fail
          exact bodyPost_ret (v := .tuple #[aggJ 4 x [] none 0 0 none 0 0 0, .bool true]) (by simp [results, Tryd.results35, go_sem, aggJ, y0, y1, y2, y3, y4, y5]; rfl) rfl ⟨but_put BE HJ2.out _ _ _ _ _ _, .inl ⟨_, _, j, HPN2.out, hj, rfl, JAt.leaf n _ _ 4 x [] 0, rd_put H6.out hJ.out _ _ _ _ _ _⟩⟩
        · have HPN2 : Hid (numP l i = .bad 1 i) := Lib.hid (by rw [HPN.out, n1])
          clear n1 HN HPN
          rcases hx with ⟨x, n2, n3, n4, n5⟩ | hx
          · have N3 := Lib.hid n3
            have HQ := Lib.hid (parseok_x told x HLE.out n2 V2)
            have HF : Hid (∀ V, Below wr.heap.size wr V → Calls Tryd.prog 46 #[.int .i64 x, .int .i64 10] V fun e w' => e = .returned (.string (baS (Lib.itoa x))) ∧ Below V.heap.size V w') := fun V hV => format_x x n4 n5 V ((S0.out.but (hb.trans (.of R hV))).gl)
            clear n2 n3 n4 n5
            go_wp2_with fail
            refine HQ.out.mono ?_
            rintro e w5 ⟨rfl, B5⟩
            have B6 := below_next BR2 B5
            clear HQ
            go_wp2_with fail
            refine (HF.out _ B6).mono ?_
            rintro e w6 ⟨rfl, B7⟩
            have B8 := below_next B6 B7
            clear HF
            have H6 := Lib.hid (HRj.out.below B8)
            have hne : ((baS told).toList == (baS (Lib.itoa x)).toList) = false := ne_toList (fun e => N3.out e.symm)
            go_wp2_with fail
            refine (fail_x H6.out 1 (i : Int)).mono ?_
            rintro e w7 ⟨rfl, q1, q2⟩
            have B9 : But R wr w7 := (But.of R B8).trans q2
            have ZZ := Lib.hid ((Z0.out.but hb (by have := hJ.out; omega)).but B9 (by have := hJ.out; omega))
            obtain ⟨z0, z1, z2, z3, z4, z5, zf, zl⟩ := (Z0.out.but hb (by have := hJ.out; omega)).but B9 (by have := hJ.out; omega)
            obtain ⟨y0, y1, y2, y3, y4, y5, yf, yl⟩ := ZZ.out.put (.int .i64 0) (.int .i64 0) (.string { data := #[] }) (.slice none 0 0) (.slice none 0 0) (.int .i64 0)
            unfold put6 at y0 y1 y2 y3 y4 y5
            have BE : But R w w7 := B0'.trans (hb.trans B9)
            have HJ2 : Hid (w.heap.size ≤ J) := Lib.hid (by rw [HJJ.out]; exact Nat.le_refl _)
            have Q1 := Lib.hid q1
            clear q1
            go_wp2_with fail
            exact bodyPost_ret (v := .tuple #[aggJ 0 0 [] none 0 0 none 0 0 0, .bool false]) (by simp [results, Tryd.results35, go_sem, aggJ, y0, y1, y2, y3, y4, y5]; rfl) rfl ⟨but_put BE HJ2.out _ _ _ _ _ _, .inr ⟨1, i, j, 0, 0, 0, [], none, 0, 0, none, 0, 0, HPN2.out, rfl, rd_put Q1.out hJ.out _ _ _ _ _ _⟩⟩
          · have HQ := Lib.hid (parseno_x told HLE.out hx V2 ((S0.out.but (hb.trans (.of R BR2))).gl))
            clear hx
            go_wp2_with fail
            refine HQ.out.mono ?_
            rintro e w5 ⟨⟨v5, N5, rfl⟩, B5⟩
            have B6 := below_next BR2 B5
            have B8 := B6
            have H6 := Lib.hid (HRj.out.below B8)
            clear HQ
            go_wp2_with fail
            refine (fail_x H6.out 1 (i : Int)).mono ?_
            rintro e w7 ⟨rfl, q1, q2⟩
            have B9 : But R wr w7 := (But.of R B8).trans q2
            have ZZ := Lib.hid ((Z0.out.but hb (by have := hJ.out; omega)).but B9 (by have := hJ.out; omega))
            obtain ⟨z0, z1, z2, z3, z4, z5, zf, zl⟩ := (Z0.out.but hb (by have := hJ.out; omega)).but B9 (by have := hJ.out; omega)
            obtain ⟨y0, y1, y2, y3, y4, y5, yf, yl⟩ := ZZ.out.put (.int .i64 0) (.int .i64 0) (.string { data := #[] }) (.slice none 0 0) (.slice none 0 0) (.int .i64 0)
            unfold put6 at y0 y1 y2 y3 y4 y5
            have BE : But R w w7 := B0'.trans (hb.trans B9)
            have HJ2 : Hid (w.heap.size ≤ J) := Lib.hid (by rw [HJJ.out]; exact Nat.le_refl _)
            have Q1 := Lib.hid q1
            clear q1
            go_wp2_with fail
            exact bodyPost_ret (v := .tuple #[aggJ 0 0 [] none 0 0 none 0 0 0, .bool false]) (by simp [results, Tryd.results35, go_sem, aggJ, y0, y1, y2, y3, y4, y5]; rfl) rfl ⟨but_put BE HJ2.out _ _ _ _ _ _, .inr ⟨1, i, j, 0, 0, 0, [], none, 0, 0, none, 0, 0, HPN2.out, rfl, rd_put Q1.out hJ.out _ _ _ _ _ _⟩⟩
    · have hno : ∀ y, l[j]? = some y → tailJ y = false := fun z hz => by rw [List.getElem?_eq_none (by omega)] at hz; cases hz
      obtain ⟨t1, t2⟩ := tw_no hno
      have hp : Hid ((l.drop i).takeWhile tailJ = (l.drop i).take (j - i) ∧ (l.drop i).dropWhile tailJ = l.drop j) := ⟨by rw [hp.out.1, t1]; simp, by rw [hp.out.2, t2]⟩
      have hd2 : decide (j < l.length) = false := by simpa using hlt
      clear t1 t2 hno
      go_wp2_with fail
      have r0 := cell_regrown c0
      have r1 := cell_regrown c1
      clear c0 c1 c2 c3 fz lt
      refine wp_region_quiet_below (by kernel_rfl) (by kernel_rfl) ?_
      repeat (go_big_quiet_step (fail))
      refine wpQuiet_nil ?_
      intro _ hw'
      obtain ⟨⟨dq, osq⟩, hw''⟩ := hw'
      subst hw''
      have BR := below_regrown wr dq osq
      clear r0 r1
      generalize grow (redrawn wr dq) osq = V at *
      have HV := Lib.hid (HRj.out.below BR)
      have BV : But R w0 V := hb.trans (.of R BR)
      have SV := Lib.hid (S0.out.but BV)
      obtain ⟨d0, d1, d2, d3, dz, dl⟩ := HRj.out.below BR
      obtain ⟨p, hp2⟩ : ∃ p, adv (some ⟨b, o, none⟩) c i = some ⟨b, p, none⟩ := by
        unfold adv; split
        · exact ⟨_, rfl⟩
        · simp only [Option.map_some, Addr.add]; split <;> exact ⟨_, rfl⟩
      have H2 : ∀ V : World, (Instr.slice 29 (.slice (some ⟨b, o, none⟩) l.length c) (some (.int .i64 (i : Int))) (some (.int .i64 (j : Int))) none).run Tryd.prog V = .ok (.slice (some ⟨b, p, none⟩) (j - i) (c - i)) V := fun V => by
        have := sl_lh (some ⟨b, o, none⟩) l.length c i j hij (by omega) V
        rwa [hp2] at this
      have htl2 : ((l.drop i).take (j - i)).length = j - i := by simp; omega
      have HB := Lib.hid (show BytesAt V (some ⟨b, p, none⟩) ((l.drop i).take (j - i)) from by
        have := (SV.out.bytes.drop c i SV.out.cap).take (j - i)
        rwa [hp2] at this)
      have hcv : ∀ (dq : Nat) (osq : Array Obj), (convert 29 9 (.slice (some ⟨b, p, none⟩) (j - i) (c - i))).run Tryd.prog (grow (redrawn V dq) osq) = .ok (.string (baS ((l.drop i).take (j - i)))) (grow (redrawn V dq) osq) := fun dq osq => by
        have := conv_bytes (c - i) (HB.out.below (below_regrown V dq osq))
        rwa [htl2] at this
      have HN := Lib.hid (num_cases ((l.drop i).take (j - i)))
      have hle : ((l.drop i).take (j - i)).length ≤ 1000000 := by rw [htl2]; omega
      have HLE := Lib.hid hle
      have HPN : Hid (numP l i = match numJ ((l.drop i).take (j - i)) with | none => .bad 1 i | some n => .ok (.mk 4 n [] [] [] 0) j (l.drop j)) := Lib.hid (by
        unfold numP
        rw [hp.out.1, hp.out.2, htl2, show i + (j - i) = j by omega])
      clear hp hp2 htl2 hle hm0
      generalize (l.drop i).take (j - i) = told at *
      go_wp2_with fail
      have r0 := cell_regrown d0
      have r1 := cell_regrown d1
      clear d0 d1 d2 d3 dz dl
      refine wp_region_quiet_below (by kernel_rfl) (by kernel_rfl) ?_
      repeat (go_big_quiet_step (fail))
      refine wpQuiet_nil ?_
      intro _ hw'
      obtain ⟨⟨dq2, osq2⟩, hw''⟩ := hw'
      subst hw''
      have BR2 := below_next BR (below_regrown V dq2 osq2)
      clear r0 r1 H2 hcv HB HV
      generalize grow (redrawn V dq2) osq2 = V2 at *
      rcases HN.out with ⟨x, n1, n2, n3, n4, n5⟩ | ⟨n1, hx⟩
      · have HPN2 : Hid (numP l i = .ok (.mk 4 x [] [] [] 0) j (l.drop j)) := Lib.hid (by rw [HPN.out, n1])
        have N3 := Lib.hid n3
        have HQ := Lib.hid (parseok_x told x HLE.out n2 V2)
        have HF : Hid (∀ V, Below wr.heap.size wr V → Calls Tryd.prog 46 #[.int .i64 x, .int .i64 10] V fun e w' => e = .returned (.string (baS told)) ∧ Below V.heap.size V w') := fun V hV => by
          have := format_x x n4 n5 V ((S0.out.but (hb.trans (.of R hV))).gl)
          rwa [n3] at this
        clear n1 n2 n3 n4 n5 HN HPN
        go_wp2_with fail
        refine HQ.out.mono ?_
        rintro e w5 ⟨rfl, B5⟩
        have B6 := below_next BR2 B5
        clear HQ
        go_wp2_with fail
        refine (HF.out _ B6).mono ?_
        rintro e w6 ⟨rfl, B7⟩
        have B8 := below_next B6 B7
        clear HF
        have H6 := Lib.hid (HRj.out.below B8)
        have ZZ := Lib.hid ((Z0.out.but hb (by have := hJ.out; omega)).below B8)
        obtain ⟨z0, z1, z2, z3, z4, z5, zf, zl⟩ := (Z0.out.but hb (by have := hJ.out; omega)).below B8
        obtain ⟨y0, y1, y2, y3, y4, y5, yf, yl⟩ := ZZ.out.put (.int .i64 4) (.int .i64 x) (.string { data := #[] }) (.slice none 0 0) (.slice none 0 0) (.int .i64 0)
        unfold put6 at y0 y1 y2 y3 y4 y5
        have BE : But R w w6 := B0'.trans (hb.trans (.of R B8))
        have HJ2 : Hid (w.heap.size ≤ J) := Lib.hid (by rw [HJJ.out]; exact Nat.le_refl _)
        go_wp2_with fail
        exact bodyPost_ret (v := .tuple #[aggJ 4 x [] none 0 0 none 0 0 0, .bool true]) (by simp [results, Tryd.results35, go_sem, aggJ, y0, y1, y2, y3, y4, y5]; rfl) rfl ⟨but_put BE HJ2.out _ _ _ _ _ _, .inl ⟨_, _, j, HPN2.out, hj, rfl, JAt.leaf n _ _ 4 x [] 0, rd_put H6.out hJ.out _ _ _ _ _ _⟩⟩
      · have HPN2 : Hid (numP l i = .bad 1 i) := Lib.hid (by rw [HPN.out, n1])
        clear n1 HN HPN
        rcases hx with ⟨x, n2, n3, n4, n5⟩ | hx
        · have N3 := Lib.hid n3
          have HQ := Lib.hid (parseok_x told x HLE.out n2 V2)
          have HF : Hid (∀ V, Below wr.heap.size wr V → Calls Tryd.prog 46 #[.int .i64 x, .int .i64 10] V fun e w' => e = .returned (.string (baS (Lib.itoa x))) ∧ Below V.heap.size V w') := fun V hV => format_x x n4 n5 V ((S0.out.but (hb.trans (.of R hV))).gl)
          clear n2 n3 n4 n5
          go_wp2_with fail
          refine HQ.out.mono ?_
          rintro e w5 ⟨rfl, B5⟩
          have B6 := below_next BR2 B5
          clear HQ
          go_wp2_with fail
          refine (HF.out _ B6).mono ?_
          rintro e w6 ⟨rfl, B7⟩
          have B8 := below_next B6 B7
          clear HF
          have H6 := Lib.hid (HRj.out.below B8)
          have hne : ((baS told).toList == (baS (Lib.itoa x)).toList) = false := ne_toList (fun e => N3.out e.symm)
          go_wp2_with fail
          refine (fail_x H6.out 1 (i : Int)).mono ?_
          rintro e w7 ⟨rfl, q1, q2⟩
          have B9 : But R wr w7 := (But.of R B8).trans q2
          have ZZ := Lib.hid ((Z0.out.but hb (by have := hJ.out; omega)).but B9 (by have := hJ.out; omega))
          obtain ⟨z0, z1, z2, z3, z4, z5, zf, zl⟩ := (Z0.out.but hb (by have := hJ.out; omega)).but B9 (by have := hJ.out; omega)
          obtain ⟨y0, y1, y2, y3, y4, y5, yf, yl⟩ := ZZ.out.put (.int .i64 0) (.int .i64 0) (.string { data := #[] }) (.slice none 0 0) (.slice none 0 0) (.int .i64 0)
          unfold put6 at y0 y1 y2 y3 y4 y5
          have BE : But R w w7 := B0'.trans (hb.trans B9)
          have HJ2 : Hid (w.heap.size ≤ J) := Lib.hid (by rw [HJJ.out]; exact Nat.le_refl _)
          have Q1 := Lib.hid q1
          clear q1
          go_wp2_with fail
          exact bodyPost_ret (v := .tuple #[aggJ 0 0 [] none 0 0 none 0 0 0, .bool false]) (by simp [results, Tryd.results35, go_sem, aggJ, y0, y1, y2, y3, y4, y5]; rfl) rfl ⟨but_put BE HJ2.out _ _ _ _ _ _, .inr ⟨1, i, j, 0, 0, 0, [], none, 0, 0, none, 0, 0, HPN2.out, rfl, rd_put Q1.out hJ.out _ _ _ _ _ _⟩⟩
        · have HQ := Lib.hid (parseno_x told HLE.out hx V2 ((S0.out.but (hb.trans (.of R BR2))).gl))
          clear hx
          go_wp2_with fail
          refine HQ.out.mono ?_
          rintro e w5 ⟨⟨v5, N5, rfl⟩, B5⟩
          have B6 := below_next BR2 B5
          have B8 := B6
          have H6 := Lib.hid (HRj.out.below B8)
          clear HQ
          go_wp2_with fail
          refine (fail_x H6.out 1 (i : Int)).mono ?_
          rintro e w7 ⟨rfl, q1, q2⟩
          have B9 : But R wr w7 := (But.of R B8).trans q2
          have ZZ := Lib.hid ((Z0.out.but hb (by have := hJ.out; omega)).but B9 (by have := hJ.out; omega))
          obtain ⟨z0, z1, z2, z3, z4, z5, zf, zl⟩ := (Z0.out.but hb (by have := hJ.out; omega)).but B9 (by have := hJ.out; omega)
          obtain ⟨y0, y1, y2, y3, y4, y5, yf, yl⟩ := ZZ.out.put (.int .i64 0) (.int .i64 0) (.string { data := #[] }) (.slice none 0 0) (.slice none 0 0) (.int .i64 0)
          unfold put6 at y0 y1 y2 y3 y4 y5
          have BE : But R w w7 := B0'.trans (hb.trans B9)
          have HJ2 : Hid (w.heap.size ≤ J) := Lib.hid (by rw [HJJ.out]; exact Nat.le_refl _)
          have Q1 := Lib.hid q1
          clear q1
          go_wp2_with fail
          exact bodyPost_ret (v := .tuple #[aggJ 0 0 [] none 0 0 none 0 0 0, .bool false]) (by simp [results, Tryd.results35, go_sem, aggJ, y0, y1, y2, y3, y4, y5]; rfl) rfl ⟨but_put BE HJ2.out _ _ _ _ _ _, .inr ⟨1, i, j, 0, 0, 0, [], none, 0, 0, none, 0, 0, HPN2.out, rfl, rd_put Q1.out hJ.out _ _ _ _ _ _⟩⟩
end Go.Proofs.YtgiihljiekagdaaDoor
