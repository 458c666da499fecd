/- strings.ContainsAny at any text and the four marks: a byte that wants quotes is found, whatever else stands there, broken signs too. -/
import Derived.Test.YtcfminkmidaaoaaDoorVa
import Derived.Test.YtcfminkmidaaoaaDoorVn
import Derived.Test.YtcfminkmidaaoaaDoorShelf
import Derived.Test.YtcfminkmidaaoaaDoorTl
import Derived.BigQuiet
import Derived.Lib.QuietBelow
import Derived.WalkMore
import Derived.Laws.Runes
import Derived.Laws.RangeAny
import Derived.Deep.LoopGhost
namespace Go.Proofs.YtcfminkmidaaoaaDoor
open Go.ChangeShapes Go.WideShapes Go.RowKit Go.Sort
/-- What a sign of more than one byte passes over are no bytes below 128. -/
theorem decode_skip (s : ByteArray) (pos : Nat) (h : pos < s.size) (ha : 128 ≤ (s[pos]'h).toNat) : ∀ j, pos ≤ j → j < pos + (Utf8.decode s pos).2 → ∃ hj : j < s.size, 128 ≤ (s[j]'hj).toNat := by
  have hn : ¬ (s[pos]'h).toNat < 128 := by omega
  have hget : ∀ k (hk : pos + k < s.size), s.get! (pos + k) = s[pos + k]'hk := fun k hk => by
    simp [ByteArray.get!, getElem!_pos, hk]; rfl
  have hcont : ∀ k, (decide (pos + k < s.size) && (s.get! (pos + k)).toNat / 64 == 2) = true → ∃ hj : pos + k < s.size, 128 ≤ (s[pos + k]'hj).toNat := fun k hk => by
    rw [Bool.and_eq_true, decide_eq_true_eq, beq_iff_eq] at hk
    refine ⟨hk.1, ?_⟩
    rw [← hget k hk.1]; omega
  have h0 : ∃ hj : pos + 0 < s.size, 128 ≤ (s[pos + 0]'hj).toNat := ⟨h, ha⟩
  have one : ∀ j, pos ≤ j → j < pos + 1 → ∃ hj : j < s.size, 128 ≤ (s[j]'hj).toNat := fun j h1 h2 => by
    obtain rfl : j = pos := by omega
    exact ⟨h, ha⟩
  intro j h1 h2
  obtain ⟨d, rfl⟩ : ∃ d, j = pos + d := ⟨j - pos, by omega⟩
  simp only [Utf8.decode, get_at s pos h, hn, if_false] at h2
  repeat' split at h2
  all_goals try (exact one _ h1 h2)
  · rename_i hc _
    simp only [Bool.and_eq_true] at hc
    have c1 := hcont 1 (by rw [Bool.and_eq_true]; exact hc.2)
    match d, h2 with
    | 0, _ => exact h0
    | 1, _ => exact c1
    | d + 2, h2 => exfalso; simp at h2; omega
  · rename_i hc _
    simp only [Bool.and_eq_true] at hc
    have c1 := hcont 1 (by rw [Bool.and_eq_true]; exact hc.1.2)
    have c2 := hcont 2 (by rw [Bool.and_eq_true]; exact hc.2)
    match d, h2 with
    | 0, _ => exact h0
    | 1, _ => exact c1
    | 2, _ => exact c2
    | d + 3, h2 => exfalso; simp at h2; omega
  · rename_i hc _
    simp only [Bool.and_eq_true] at hc
    have c1 := hcont 1 (by rw [Bool.and_eq_true]; exact hc.1.1.2)
    have c2 := hcont 2 (by rw [Bool.and_eq_true]; exact hc.1.2)
    have c3 := hcont 3 (by rw [Bool.and_eq_true]; exact hc.2)
    match d, h2 with
    | 0, _ => exact h0
    | 1, _ => exact c1
    | 2, _ => exact c2
    | 3, _ => exact c3
    | d + 4, h2 => exfalso; simp at h2; omega
theorem valid_small {c : Nat} (h : c < 55296) : Utf8.valid (c : Int) = true := by
  rw [validRune_eq]; exact decide_eq_true (Or.inl ⟨by omega, by omega⟩)
theorem decode_valid (s : ByteArray) (pos : Nat) (h : pos < s.size) (ha : 128 ≤ (s[pos]'h).toNat) : Utf8.valid ((Utf8.decode s pos).1 : Int) = true := by
  have hn : ¬ (s[pos]'h).toNat < 128 := by omega
  have hb : ∀ k, (s.get! (pos + k)).toNat < 256 := fun k => (s.get! (pos + k)).toNat_lt
  have h1 := hb 1
  have hp := (s[pos]'h).toNat_lt
  have he : Utf8.valid ((Utf8.runeError : Nat) : Int) = true := by decide
  have key : ∀ a b : Nat, a % 32 * 64 + b % 64 < 55296 := fun a b => by omega
  simp only [Utf8.decode, get_at s pos h, hn, if_false]
  repeat' split
  all_goals first | with_reducible exact he | skip
  · exact valid_small (key _ _)
  · rename_i hc; simp only [Bool.and_eq_true] at hc; exact hc.2
  · rename_i hc; simp only [Bool.and_eq_true] at hc; exact hc.2
set_option maxHeartbeats 2000000 in
set_option maxRecDepth 100000 in
theorem validRune_x (r : Int) (hv : Utf8.valid r = true) (w : World) :
    Calls Tryd.prog 52 #[.int .i32 r] w fun e w' => e = .returned (.bool true) ∧ w' = w := by
  rw [validRune_eq] at hv
  have h : (0 ≤ r ∧ r < 55296) ∨ (57343 < r ∧ r ≤ 1114111) := of_decide_eq_true hv
  clear hv
  rcases h with ⟨h1, h2⟩ | ⟨h1, h2⟩
  · go_enter Tryd.func52, Tryd.ntmps52
    go_wp2
    go_ret
    exact ⟨rfl, rfl⟩
  · have h0 : 0 ≤ r := by omega
    have h3 : ¬ r < 55296 := by omega
    go_enter Tryd.func52, Tryd.ntmps52
    go_wp2
    go_ret
    exact ⟨rfl, rfl⟩
/-- The four marks. -/
def marks9 : Bs := [34, 44, 13, 10]
theorem enc_pack (r : Int) (hv : Utf8.valid r = true) (h128 : 128 ≤ r) : ∃ (E : Bs) (m : Nat) (b : UInt8), Utf8.encode r = baS E ∧ E.length = m + 1 ∧ 1 ≤ m ∧ m ≤ 3 ∧ E[m]? = some b ∧ 128 ≤ b.toNat := by
  obtain ⟨e1, e2, e3⟩ := encode_facts r hv h128
  have e3' := e3 (by omega)
  refine ⟨(Utf8.encode r).data.toList, (Utf8.encode r).size - 1, _, baS_of _ _ rfl, ?_, by omega, by omega, ?_, e3'⟩
  · rw [Array.length_toList]; show (Utf8.encode r).size = _; omega
  · rw [Array.getElem?_toList]
    exact Array.getElem?_eq_getElem (xs := (Utf8.encode r).data) (by show (Utf8.encode r).size - 1 < (Utf8.encode r).size; omega)
set_option maxHeartbeats 8000000 in
set_option maxRecDepth 100000 in
theorem irune_high (r : Int) (h128 : 128 ≤ r) (hr : r ≤ 2147483647) (hv : Utf8.valid r = true) (w : World) :
    Calls Tryd.prog 41 #[.string ⟨#[34, 44, 13, 10]⟩, .int .i32 r] w fun e w' => e = .returned (.int .i64 (-1)) ∧ Below w.heap.size w w' := by
  have h0 : 0 ≤ r := by omega
  have h1 : ¬ r < 128 := by omega
  by_cases he : r = 65533
  · subst he
    clear h0 h1 h128 hr hv
    have hs : (⟨#[34, 44, 13, 10]⟩ : ByteArray) = baS marks9 := rfl
    have hx : ∀ (i : Nat) (hi : i < 4), ∃ x : UInt8, marks9[i]? = some x ∧ x.toNat < 128 ∧ ∀ ty, (Instr.next (.pointer (some ⟨w.heap.size, 0, none⟩)) true ty).run Tryd.prog (w.iter ⟨#[34, 44, 13, 10]⟩ i) = .ok (.tuple #[.bool true, .int .i64 i, .int .i32 x.toNat]) (w.iter ⟨#[34, 44, 13, 10]⟩ (i + 1)) := fun i hi => by
      have hsz : i < (⟨#[34, 44, 13, 10]⟩ : ByteArray).size := hi
      have ha : ((⟨#[34, 44, 13, 10]⟩ : ByteArray)[i]'hsz).toNat < 128 := by
        match i, hi with
        | 0, _ => show (34 : UInt8).toNat < 128; decide
        | 1, _ => show (44 : UInt8).toNat < 128; decide
        | 2, _ => show (13 : UInt8).toNat < 128; decide
        | 3, _ => show (10 : UInt8).toNat < 128; decide
      refine ⟨_, ?_, ha, fun ty => run_next_ascii w _ i ty hsz ha⟩
      match i, hi with
      | 0, _ => rfl
      | 1, _ => rfl
      | 2, _ => rfl
      | 3, _ => rfl
    have HX := Lib.hid hx
    have hend := fun ty => run_next_end (P := Tryd.prog) w ⟨#[34, 44, 13, 10]⟩ 4 (ty := ty) (by decide)
    clear hx hs
    go_enter Tryd.func41, Tryd.ntmps41
    go_wp2
    go_loopg [5, 6] 4 (fun g _ _ wx => ∃ i : Nat, i + g = 4 ∧ wx = w.iter ⟨#[34, 44, 13, 10]⟩ i)
    case atStart => exact ⟨0, by omega, rfl⟩
    case round =>
      obtain ⟨i, hig, rfl⟩ := hrel
      cases gk with
      | zero =>
        obtain rfl : i = 4 := by omega
        go_wp2
        go_ret
        exact ⟨rfl, ball (Below.refl _ _)⟩
      | succ g =>
        obtain ⟨x, _, hx128, hnx⟩ := HX.out i (by omega)
        have hne : ¬ ((x.toNat : Int) = 65533) := by omega
        generalize x.toNat = u at *
        go_wp2
        go_roundg g
        case measure => omega
        case rel => exact ⟨i + 1, by omega, rfl⟩
  · obtain ⟨E, m, b, hE, hlen, hm1, hm3, hb, hb128⟩ := enc_pack r hv h128
    have HV := Lib.hid (validRune_x r hv)
    have hmlt : m < E.length := by omega
    have hlast := fun V => str_at8 E m hmlt V
    rw [(List.getElem?_eq_some_iff.1 hb).2] at hlast
    have hidx : ∃ x : UInt8, x.toNat < 128 ∧ ∀ V, (Instr.index 9 (.string ⟨#[34, 44, 13, 10]⟩) (.int .i64 (m : Int))).run Tryd.prog V = .ok (.int .u8 ((x.toNat : Nat) : Int)) V := by
      refine ⟨marks9[m]'(by show m < 4; omega), ?_, fun V => str_at8 marks9 m (by show m < 4; omega) V⟩
      have : ∀ k (hk : k < 4), (marks9[k]'hk).toNat < 128 := by decide
      exact this m (by omega)
    obtain ⟨x, hx, hix⟩ := hidx
    have hsub : ∀ V, (Instr.slice 9 (.string ⟨#[34, 44, 13, 10]⟩) (some (.int .i64 ((m + 1 : Nat) : Int))) none none).run Tryd.prog V = .ok (.string (baS (marks9.drop (m + 1)))) V := fun V => sliceFrom marks9 (m + 1) (by show m + 1 ≤ 4; omega) V
    have HI : Hid (∀ V, Calls Tryd.prog 39 #[.string (baS (marks9.drop (m + 1))), .int .u8 ((b.toNat : Nat) : Int)] V fun e w' => e = .returned (.int .i64 (-1)) ∧ w' = V) := fun V => by
      have := sidx_x (marks9.drop (m + 1)) b V
      have hn : Lib.indexByte (marks9.drop (m + 1)) b = -1 := by
        by_cases hz : Lib.indexByte (marks9.drop (m + 1)) b = -1
        · exact hz
        · exfalso
          obtain ⟨o, ho⟩ : ∃ o : Nat, Lib.indexByte (marks9.drop (m + 1)) b = o := ⟨(Lib.indexByte (marks9.drop (m + 1)) b).toNat, by have := Lib.indexByte_ge (marks9.drop (m + 1)) b; omega⟩
          have h2 := List.mem_of_mem_drop (List.mem_of_getElem? (Lib.indexByte_some ho).1)
          have : ∀ c ∈ marks9, c.toNat < 128 := by decide
          have := this _ h2
          omega
      rwa [hn] at this
    have hsz : (baS E).size = m + 1 := by rw [baS_size, hlen]
    have hbx : (((x.toNat : Nat) : Int) != ((b.toNat : Nat) : Int)) = true := by rw [bne_iff_ne]; omega
    have hm4 : (m : Int) < 4 := by omega
    have hwr : IntKind.i64.wrap ((m : Int) + 1) = ((m + 1 : Nat) : Int) := by rw [IntKind.wrap_i64]; omega
    have HE := Lib.hid hE
    clear hE hb hv hlen hmlt
    generalize baS (marks9.drop (m + 1)) = D at *
    have hcv : ∀ V, (convert 21 9 (.int .i32 r)).run Tryd.prog V = .ok (.string (baS E)) V := fun V => by
      rw [← HE.out]
      exact run_convert_int_string V 21 9 .i32 r (by kernel_rfl) Tryd.underlying9
    generalize baS E = EE at *
    have hne : (r == 65533) = false := beq_eq_false_iff_ne.2 he
    have hwm : IntKind.i64.wrap (((m + 1 : Nat) : Int) - 1) = (m : Int) := by rw [IntKind.wrap_i64]; omega
    have hwm2 : wrap64 (((m + 1 : Nat) : Int) - 1) = (m : Int) := by unfold wrap64; omega
    clear he HE
    generalize m + 1 = m1 at *
    go_enter Tryd.func41, Tryd.ntmps41
    go_wp2_with fail
    refine (HV.out _).mono ?_
    rintro e w' ⟨rfl, rfl⟩
    go_wp2_with fail
    go_step3
    go_wp2_with fail
    go_loopw [9, 10] (fun iv fv wr => iv = .int .i64 (m : Int) ∧ fv = .int .i64 0 ∧ wr = w') (fun _ _ _ => 0)
    case atStart => exact ⟨rfl, rfl, rfl⟩
    case round =>
      obtain ⟨rfl, rfl, rfl⟩ := hrel
      go_wp2_with fail
      go_step3
      go_wp2_with fail
      go_quiet (fail)
      go_wp2_with fail
      have HB : Hid (∀ V, Calls Tryd.prog 39 #[.string D, .int .u8 ((b.toNat : Nat) : Int)] V fun e w' => e = .returned (.int .i64 (-1)) ∧ Below V.heap.size V w') := Lib.hid (fun V => (HI.out V).mono fun e w' ⟨h1, h2⟩ => ⟨h1, h2 ▸ Below.refl _ _⟩)
      clear HI HV
      generalize hwq : wr.drewN nq = wq
      have BQ : Below wr.heap.size wr wq := hwq ▸ bdrew (Below.refl _ _) nq
      clear hwq
      refine wp_region_quiet_below (by kernel_rfl) (by kernel_rfl) ?_
      repeat (go_big_quiet_step (first | (go_at_call 39; exact Calls.regrown_of (HB.out _))))
      refine wpQuiet_nil ?_
      intro _ hw'
      obtain ⟨⟨dq, osq⟩, hw''⟩ := hw'
      subst hw''
      have BR := below_next BQ (below_regrown wq dq osq)
      generalize grow (redrawn wq dq) osq = V at *
      go_wp2
      simp +zetaDelta only [Exit.noGoto_ret, Exit.inBlock, Exit.then]
      go_ret
      exact ⟨rfl, BR⟩
end Go.Proofs.YtcfminkmidaaoaaDoor
