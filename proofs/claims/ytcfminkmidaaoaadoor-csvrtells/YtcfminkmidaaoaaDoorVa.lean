/- Package csvr: isPlain, and a field that is not in quotes. -/
import Derived.Test.YtcfminkmidaaoaaDoorUa
import Derived.Test.YtcfminkmidaaoaaDoorVp
import Derived.Lib.Bytealg
namespace Go.Proofs.YtcfminkmidaaoaaDoor
open Go.ChangeShapes Go.WideShapes Go.RowKit Go.Sort
set_option maxHeartbeats 2000000 in
set_option maxRecDepth 100000 in
theorem isPlain_x (c : UInt8) (w : World) :
    Calls Tryd.prog 38 #[.int .u8 (c.toNat : Int)] w fun e w' => e = .returned (.bool (prtB c)) ∧ w' = w := by
  rw [prtN_is]
  have hlt := c.toNat_lt
  generalize c.toNat = n at *
  go_enter Tryd.func38, Tryd.ntmps38
  go_wp2
  all_goals go_ret
  all_goals refine ⟨?_, rfl⟩
  all_goals simp_all <;> omega
set_option maxHeartbeats 2000000 in
set_option maxRecDepth 100000 in
theorem sidx_x (l : Bs) (c : UInt8) (w : World) :
    Calls Tryd.prog 39 #[.string (baS l), .int .u8 (c.toNat : Int)] w fun e w' => e = .returned (.int .i64 (Lib.indexByte l c)) ∧ w' = w := by
  have hx : (Extern.BytealgIndexByte.indexByte #[.string (baS l), .int .u8 (c.toNat : Int)]).run Tryd.prog w = .ok (.int .i64 (Lib.indexByte l c)) w := by
    have := Lib.run_indexByteString (P := Tryd.prog) (baS l) (c.toNat : Int) w
    rw [this, show (c.toNat : Int).toNat.toUInt8 = c by simp]; rfl
  have H3 : Hid (Calls Tryd.prog 51 #[.string (baS l), .int .u8 (c.toNat : Int)] w fun e w' => e = .returned (.int .i64 (Lib.indexByte l c)) ∧ w' = w) := by
    show Calls _ _ _ _ _
    go_enter Tryd.func51, Tryd.ntmps51
    go_wp2
    rw [run_callFunc_extern Tryd.func61 (by kernel_rfl) (by kernel_rfl) (by kernel_rfl) (e := Extern.BytealgIndexByte.indexByte) (by kernel_rfl), hx]
    simp only [Result.andThen]
    rw [Oper.upon_value]
    go_wp2
    go_ret
    exact ⟨rfl, rfl⟩
  clear hx
  go_enter Tryd.func39, Tryd.ntmps39
  go_wp2_with fail
  refine H3.out.mono ?_
  rintro e w' ⟨rfl, rfl⟩
  go_wp2
  go_ret
  exact ⟨rfl, rfl⟩
/-- The bytes that end a field, by their place among three. -/
theorem stop_idx (c : UInt8) : (stopB c = true ∧ ∃ z : Nat, Lib.indexByte [44, 13, 10] c = (z : Int)) ∨ (stopB c = false ∧ Lib.indexByte [44, 13, 10] c = -1) := by
  have : ∀ n, n < 256 → (stopB (UInt8.ofNat n) = true ∧ Lib.indexByte [44, 13, 10] (UInt8.ofNat n) ∈ [(0 : Int), 1, 2]) ∨ (stopB (UInt8.ofNat n) = false ∧ Lib.indexByte [44, 13, 10] (UInt8.ofNat n) = -1) := by decide +kernel
  have e := this c.toNat c.toNat_lt
  rw [show UInt8.ofNat c.toNat = c by simp] at e
  rcases e with ⟨a, b⟩ | e
  · refine Or.inl ⟨a, ?_⟩
    simp at b
    rcases b with b | b | b
    · exact ⟨0, b⟩
    · exact ⟨1, b⟩
    · exact ⟨2, b⟩
  · exact Or.inr e
theorem plain_is {c : UInt8} (h : stopB c = false) : plainB c = (prtB c && !(decide ((c.toNat : Int) = 34))) := by
  have : ∀ n, n < 256 → stopB (UInt8.ofNat n) = false → plainB (UInt8.ofNat n) = (prtB (UInt8.ofNat n) && !(decide ((n : Int) = 34))) := by decide +kernel
  have e := this c.toNat c.toNat_lt
  rw [show UInt8.ofNat c.toNat = c by simp] at e
  exact e h
/-- What bareAt hands back. -/
def BareE (l : Bs) (i : Nat) (v : Value) : Prop :=
  ∃ j, PlainTo l i j ∧ ((v = .tuple #[.string (baS (pieceV l i j)), .int .i64 (j : Int), .agg #[.int .i64 0, .int .i64 0]] ∧ ∀ c, l[j]? = some c → stopB c = true)
    ∨ (v = .tuple #[.string (baS []), .int .i64 0, .agg #[.int .i64 1, .int .i64 (j : Int)]] ∧ ∃ c, l[j]? = some c ∧ stopB c = false))
set_option maxHeartbeats 8000000 in
set_option maxRecDepth 100000 in
theorem bareAt_x (l : Bs) (a : Option Addr) (c i : Nat) (w : World) (h : BytesAt w a l) (hc : l.length ≤ c) (hl : l.length ≤ 1000000) (hi : i ≤ l.length) :
    Calls Tryd.prog 32 #[.slice a l.length c, .int .i64 (i : Int)] w fun e w' => (∃ v, e = .returned v ∧ BareE l i v) ∧ Below w.heap.size w w' := by
  have HH := Lib.hid h
  clear h
  go_enter Tryd.func32, Tryd.ntmps32
  go_upto_region 1 with fail
  generalize hw0 : w.alloc _ = w0
  have B0 : Below w.heap.size w w0 := hw0 ▸ ball (Below.refl _ _)
  have E0 : ErrAt w0 w.heap.size := by subst hw0; exact ⟨by simp [go_sem], by simp [go_sem], fun o => by simp [go_sem], by simp [go_sem]⟩
  clear hw0
  have H0 := Lib.hid (HH.out.below B0)
  clear HH
  go_wp2_with fail
  go_loopw [5] (fun iv wr => ∃ j : Nat, iv = .int .i64 (j : Int) ∧ i ≤ j ∧ j ≤ l.length ∧ Hid (∀ c ∈ pieceV l i j, plainB c = true) ∧ wr = w0) (fun iv _ => l.length + 1 - intN iv)
  case atStart => exact ⟨i, rfl, Nat.le_refl _, hi, Lib.hid (by rw [piece_nil]; simp), rfl⟩
  case round =>
    obtain ⟨j, rfl, hij, hjl, hp, rfl⟩ := hrel
    have e0 := E0.c0
    have e1 := E0.c1
    have ef := E0.fz
    have hsl := fun V => sl_lh a l.length c i j hij (by omega) V
    have hpc := piece_at H0.out hc i j hjl
    by_cases hlt : j < l.length
    · obtain ⟨ad, ha⟩ : ∃ ad, a = some ad := by
        obtain ⟨ad, e, _⟩ := H0.out j (l[j]'hlt) (List.getElem?_eq_getElem hlt)
        exact ⟨ad, e⟩
      subst ha
      have hcell := bytesAt_cell H0.out j hlt
      have HG := Lib.hid (List.getElem?_eq_getElem hlt)
      have HS := Lib.hid (piece_snoc (List.getElem?_eq_getElem hlt) hij)
      generalize l[j]'hlt = b at *
      have HX := Lib.hid (isPlain_x b)
      have HI : Hid (∀ V, Calls Tryd.prog 39 #[.string ⟨#[44, 13, 10]⟩, .int .u8 (b.toNat : Int)] V fun e w' => e = .returned (.int .i64 (Lib.indexByte [44, 13, 10] b)) ∧ w' = V) := fun V => sidx_x [44, 13, 10] b V
      rcases stop_idx b with ⟨hs, z, hz⟩ | ⟨hs, hz⟩
      · have HF : Hid (PlainTo l i j ∧ ∀ c, l[j]? = some c → stopB c = true) := Lib.hid ⟨⟨hij, hjl, hp.out, fun c hc => by rw [HG.out] at hc; cases hc; exact (stop_not hs).1⟩, fun c hc => by rw [HG.out] at hc; cases hc; exact hs⟩
        rw [hz] at HI
        obtain ⟨s0, s1⟩ := errset (x := 0) (y := 0) e0 e1
        have hz0 : ¬ ((z : Int) < 0) := by omega
        clear HX HG HS hp hs hz
        generalize b.toNat = u at *
        generalize hP : pieceV l i j = pl at hpc
        have HPL := Lib.hid hP
        clear hP
        go_wp2_with fail
        refine (HI.out _).mono ?_
        rintro e w' ⟨rfl, rfl⟩
        clear HI
        go_wp2_with fail
        exact bodyPost_ret (v := .tuple #[.string (baS pl), .int .i64 (j : Int), .agg #[.int .i64 0, .int .i64 0]]) (by simp [results, Tryd.results32, go_sem, s0, s1]) rfl ⟨⟨_, rfl, j, HF.out.1, Or.inl ⟨by rw [HPL.out], HF.out.2⟩⟩, (B0.setCell (Nat.le_refl _) _).setCell (Nat.le_refl _) _⟩
      · rw [hz] at HI
        have hpl := plain_is hs
        clear hz hpc hsl
        by_cases hpb : plainB b = true
        · have HP : Hid (∀ c ∈ pieceV l i (j + 1), plainB c = true) := Lib.hid (by
            rw [HS.out]; intro c hc; simp at hc; rcases hc with hc | hc; exact hp.out c hc; rw [hc]; exact hpb)
          rw [hpb] at hpl
          have hpl2 := hpl.symm
          rw [Bool.and_eq_true] at hpl2
          obtain ⟨h1, h2⟩ := hpl2
          have h3 : ¬ ((b.toNat : Int) = 34) := by simpa using h2
          rw [h1] at HX
          clear h2 h1 hpl hpb hp HG HS hs
          generalize b.toNat = u at *
          go_wp2_with fail
          refine (HI.out _).mono ?_
          rintro e w' ⟨rfl, rfl⟩
          go_wp2_with fail
          refine (HX.out _).mono ?_
          rintro e w' ⟨rfl, rfl⟩
          clear HI HX
          go_wp2
          exact ⟨⟨j + 1, by simp, by omega, by omega, HP, trivial⟩, by simp [intN]; omega⟩
        · have HF : Hid (PlainTo l i j ∧ ∃ c, l[j]? = some c ∧ stopB c = false) := Lib.hid ⟨⟨hij, hjl, hp.out, fun c hc => by rw [HG.out] at hc; cases hc; simpa using hpb⟩, b, HG.out, hs⟩
          obtain ⟨s0, s1⟩ := errset (x := 1) (y := (j : Int)) e0 e1
          rw [show plainB b = false by simpa using hpb] at hpl
          clear hpb hp HG HS hs
          generalize b.toNat = u at *
          by_cases h1 : prtB b = true
          · rw [h1] at HX hpl
            have h3 : (u : Int) = 34 := by simpa using hpl.symm
            obtain rfl : u = 34 := by omega
            clear hpl h1 h3
            go_wp2_with fail
            refine (HI.out _).mono ?_
            rintro e w' ⟨rfl, rfl⟩
            go_wp2_with fail
            refine (HX.out _).mono ?_
            rintro e w' ⟨rfl, rfl⟩
            clear HI HX
            go_wp2_with fail
            exact bodyPost_ret (v := .tuple #[.string (baS []), .int .i64 0, .agg #[.int .i64 1, .int .i64 (j : Int)]]) (by simp [results, Tryd.results32, go_sem, s0, s1, baS]) rfl ⟨⟨_, rfl, j, HF.out.1, Or.inr ⟨rfl, HF.out.2⟩⟩, (B0.setCell (Nat.le_refl _) _).setCell (Nat.le_refl _) _⟩
          · rw [show prtB b = false by simpa using h1] at HX
            clear hpl h1
            go_wp2_with fail
            refine (HI.out _).mono ?_
            rintro e w' ⟨rfl, rfl⟩
            go_wp2_with fail
            refine (HX.out _).mono ?_
            rintro e w' ⟨rfl, rfl⟩
            clear HI HX
            go_wp2_with fail
            exact bodyPost_ret (v := .tuple #[.string (baS []), .int .i64 0, .agg #[.int .i64 1, .int .i64 (j : Int)]]) (by simp [results, Tryd.results32, go_sem, s0, s1, baS]) rfl ⟨⟨_, rfl, j, HF.out.1, Or.inr ⟨rfl, HF.out.2⟩⟩, (B0.setCell (Nat.le_refl _) _).setCell (Nat.le_refl _) _⟩
    · obtain rfl : j = l.length := by omega
      have HF : Hid (PlainTo l i l.length ∧ ∀ c, l[l.length]? = some c → stopB c = true) := Lib.hid ⟨⟨hij, hjl, hp.out, fun c hc => by simp at hc⟩, fun c hc => by simp at hc⟩
      obtain ⟨s0, s1⟩ := errset (x := 0) (y := 0) e0 e1
      clear hp
      generalize hP : pieceV l i l.length = pl at hpc
      have HPL := Lib.hid hP
      clear hP
      go_wp2_with fail
      exact bodyPost_ret (v := .tuple #[.string (baS pl), .int .i64 (l.length : Int), .agg #[.int .i64 0, .int .i64 0]]) (by simp [results, Tryd.results32, go_sem, s0, s1]) rfl ⟨⟨_, rfl, l.length, HF.out.1, Or.inl ⟨by rw [HPL.out], HF.out.2⟩⟩, (B0.setCell (Nat.le_refl _) _).setCell (Nat.le_refl _) _⟩
end Go.Proofs.YtcfminkmidaaoaaDoor
