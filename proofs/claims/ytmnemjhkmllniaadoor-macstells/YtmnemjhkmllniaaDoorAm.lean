/- Addresses and their texts, as plain mathematics: how a text is read, how an address is told, and that what is told is read as it was. No program stands in this text. -/
import Derived.Lib.IndexMore
import Derived.Lib.CutLaws
import Derived.Lib.Join
import Derived.Lib.ParseIntB
import Derived.Lib.ItoaNum
import Derived.Test.YtmnemjhkmllniaaDoorQm
namespace Go.Proofs.YtmnemjhkmllniaaDoor

abbrev Bs := List UInt8

/-! ### digits and groups -/
def hexD (c : UInt8) : Option Nat :=
  if 48 ≤ c.toNat ∧ c.toNat ≤ 57 then some (c.toNat - 48)
  else if 97 ≤ c.toNat ∧ c.toNat ≤ 102 then some (c.toNat - 87)
  else if 65 ≤ c.toNat ∧ c.toNat ≤ 70 then some (c.toNat - 55) else none
def hexM (acc : Nat) : Bs → Option Nat
  | [] => some acc
  | c :: r => match hexD c with
    | none => none
    | some d => hexM (acc * 16 + d) r
def groupV (l : Bs) : Option Nat := if l = [] ∨ 4 < l.length then none else hexM 0 l
def decV (l : Bs) : Option Nat := if 3 < l.length ∨ (1 < l.length ∧ l.head? = some 48) then none else match Lib.parseUintB 8 l with
  | .ok u => some u
  | _ => none
def hexC (d : Nat) : UInt8 := UInt8.ofNat (if d < 10 then 48 + d else 87 + d)
def hexS (n : Nat) : Bs :=
  if n < 16 then [hexC n] else if n < 256 then [hexC (n / 16), hexC (n % 16)]
  else if n < 4096 then [hexC (n / 256), hexC (n / 16 % 16), hexC (n % 16)]
  else [hexC (n / 4096), hexC (n / 256 % 16), hexC (n / 16 % 16), hexC (n % 16)]
def decC (d : Nat) : UInt8 := UInt8.ofNat (48 + d)
def decS (n : Nat) : Bs := if n < 10 then [decC n] else if n < 100 then [decC (n / 10), decC (n % 10)] else [decC (n / 100), decC (n / 10 % 10), decC (n % 10)]

theorem hexD_lt {c : UInt8} {d : Nat} (h : hexD c = some d) : d < 16 := by
  unfold hexD at h
  split at h
  · simp at h; omega
  · split at h
    · simp at h; omega
    · split at h
      · simp at h; omega
      · simp at h
theorem hexM_lt : ∀ (l : Bs) (acc n : Nat), hexM acc l = some n → n < (acc + 1) * 16 ^ l.length
  | [], acc, n, h => by simp [hexM] at h; simp; omega
  | c :: r, acc, n, h => by
    unfold hexM at h
    cases hd : hexD c with
    | none => rw [hd] at h; cases h
    | some d =>
      rw [hd] at h
      have := hexM_lt r _ n h
      have hl := hexD_lt hd
      rw [List.length_cons, Nat.pow_succ]
      calc n < (acc * 16 + d + 1) * 16 ^ r.length := this
        _ ≤ ((acc + 1) * 16) * 16 ^ r.length := Nat.mul_le_mul_right _ (by omega)
        _ = (acc + 1) * (16 ^ r.length * 16) := by rw [Nat.mul_assoc, Nat.mul_comm 16]
theorem groupV_lt {l : Bs} {n : Nat} (h : groupV l = some n) : n < 65536 := by
  unfold groupV at h
  split at h
  · cases h
  · have := hexM_lt l 0 n h
    have hp : 16 ^ l.length ≤ 16 ^ 4 := Nat.pow_le_pow_right (by decide) (by omega)
    omega
theorem hexD_C : ∀ d, d < 16 → hexD (hexC d) = some d := by decide
theorem hexC_ne : ∀ d, d < 16 → hexC d ≠ 58 ∧ hexC d ≠ 46 := by decide
theorem hexM_C {acc d : Nat} {r : Bs} (h : d < 16) : hexM acc (hexC d :: r) = hexM (acc * 16 + d) r := by
  conv => lhs; unfold hexM
  rw [hexD_C d h]
theorem groupV_hexS (n : Nat) (h : n < 65536) : groupV (hexS n) = some n := by
  unfold hexS
  split
  · rw [groupV, if_neg (by simp), hexM_C (by omega)]; simp [hexM]
  · split
    · rw [groupV, if_neg (by simp), hexM_C (by omega), hexM_C (by omega)]; simp [hexM]; omega
    · split
      · rw [groupV, if_neg (by simp), hexM_C (by omega), hexM_C (by omega), hexM_C (by omega)]; simp [hexM]; omega
      · rw [groupV, if_neg (by simp), hexM_C (by omega), hexM_C (by omega), hexM_C (by omega), hexM_C (by omega)]; simp [hexM]; omega
theorem hexS_mem (n : Nat) (h : n < 65536) : ∀ c ∈ hexS n, c ≠ 58 ∧ c ≠ 46 := by
  intro c hc
  unfold hexS at hc
  split at hc
  · simp at hc; subst hc; exact hexC_ne _ (by omega)
  · split at hc
    · simp at hc; rcases hc with rfl | rfl <;> exact hexC_ne _ (by omega)
    · split at hc
      · simp at hc; rcases hc with rfl | rfl | rfl <;> exact hexC_ne _ (by omega)
      · simp at hc; rcases hc with rfl | rfl | rfl | rfl <;> exact hexC_ne _ (by omega)
theorem hexS_ne (n : Nat) : hexS n ≠ [] := by unfold hexS; split <;> (try split) <;> (try split) <;> simp
theorem hexS_len (n : Nat) : 1 ≤ (hexS n).length ∧ (hexS n).length ≤ 4 := by unfold hexS; split <;> (try split) <;> (try split) <;> simp
theorem decV_decS : ∀ n, n < 256 → decV (decS n) = some n := by decide +kernel
theorem decS_mem : ∀ n, n < 256 → ∀ c ∈ decS n, c ≠ 58 ∧ c ≠ 46 := by decide +kernel
theorem decS_len (n : Nat) : 1 ≤ (decS n).length ∧ (decS n).length ≤ 3 := by unfold decS; split <;> (try split) <;> simp
theorem decS_eq (n : Nat) (h : n < 1000) : Lib.decDigits n = decS n := by
  unfold decS decC
  split
  · exact Lib.decDigits_one ‹_›
  · split
    · exact Lib.decDigits_two ‹_› ‹_›
    · rw [Lib.decDigits, dif_neg ‹_›, Lib.decDigits_two (by omega) (by omega), Nat.div_div_eq_div_mul]; rfl
theorem parseUintM_le : ∀ (l : Bs) (M acc u : Nat), acc ≤ M → Lib.parseUintM M acc l = .ok u → u ≤ M
  | [], M, acc, u, ha, h => by simp [Lib.parseUintM] at h; omega
  | c :: r, M, acc, u, ha, h => by
    unfold Lib.parseUintM at h
    split at h
    · split at h
      · cases h
      · split at h
        · cases h
        · exact parseUintM_le r M _ u (by omega) h
    · cases h
theorem decV_lt {l : Bs} {n : Nat} (h : decV l = some n) : n < 256 := by
  unfold decV at h
  split at h
  · cases h
  · split at h
    · rename_i u hu
      cases h
      unfold Lib.parseUintB at hu
      split at hu
      · cases hu
      · have := parseUintM_le _ _ _ _ (by decide) hu
        omega
    · cases h

/-! ### where a byte, or two, first stand -/
theorem idx1_none : ∀ (l : Bs) (k : UInt8), (∀ c ∈ l, c ≠ k) → Lib.index l [k] = -1
  | [], k, _ => rfl
  | b :: l, k, h => by
    unfold Lib.index
    have hb : ([k] : Bs).isPrefixOf (b :: l) = false := by
      have := h b (by simp)
      simp [List.isPrefixOf]
      exact fun e => this e.symm
    rw [hb, idx1_none l k (fun c hc => h c (by simp [hc]))]
    rfl
theorem idx1_some : ∀ (p : Bs) (k : UInt8) (r : Bs), (∀ c ∈ p, c ≠ k) → Lib.index (p ++ k :: r) [k] = p.length
  | [], k, r, _ => by simp [Lib.index, List.isPrefixOf]
  | b :: p, k, r, h => by
    rw [List.cons_append]
    unfold Lib.index
    have hb : ([k] : Bs).isPrefixOf (b :: (p ++ k :: r)) = false := by
      have := h b (by simp)
      simp [List.isPrefixOf]
      exact fun e => this e.symm
    rw [hb, idx1_some p k r (fun c hc => h c (by simp [hc]))]
    have : ((p.length : Int) == -1) = false := by rw [beq_eq_false_iff_ne]; omega
    simp [this]
theorem cut1_none {l : Bs} {k : UInt8} (h : ∀ c ∈ l, c ≠ k) : Lib.cut l [k] = (l, [], false) := by
  unfold Lib.cut; rw [idx1_none l k h, if_neg (by decide)]
theorem cut1_some {p r : Bs} {k : UInt8} (h : ∀ c ∈ p, c ≠ k) : Lib.cut (p ++ k :: r) [k] = (p, r, true) := by
  unfold Lib.cut
  rw [idx1_some p k r h, if_pos (by omega), Int.toNat_natCast, List.take_left, List.length_singleton, ← List.drop_drop, List.drop_left]
  rfl
theorem has_none {l : Bs} {k : UInt8} (h : ∀ c ∈ l, c ≠ k) : Lib.contains l [k] = false := by
  unfold Lib.contains; rw [idx1_none l k h]; rfl
theorem has_some {l : Bs} {k : UInt8} (h : k ∈ l) : Lib.contains l [k] = true := by
  by_cases hh : ∃ p r, l = p ++ k :: r ∧ ∀ c ∈ p, c ≠ k
  · obtain ⟨p, r, rfl, hp⟩ := hh
    unfold Lib.contains; rw [idx1_some p k r hp]; exact decide_eq_true (by omega)
  · exfalso; apply hh
    clear hh
    induction l with
    | nil => cases h
    | cons b l ih =>
      by_cases hb : b = k
      · exact ⟨[], l, by simp [hb], by simp⟩
      · obtain ⟨p, r, rfl, hp⟩ := ih (by rcases List.mem_cons.1 h with e | e; exact absurd e.symm hb; exact e)
        exact ⟨b :: p, r, rfl, fun c hc => by rcases List.mem_cons.1 hc with rfl | e; exact hb; exact hp c e⟩
/-- '-1' stays, every other place is so much farther. -/
def farther (n : Nat) (i : Int) : Int := if i = -1 then -1 else i + n
theorem farther_zero (i : Int) : farther 0 i = i := by unfold farther; split <;> omega
theorem farther_add (a b : Nat) (i : Int) (h : -1 ≤ i) : farther a (farther b i) = farther (a + b) i := by unfold farther; split <;> (try split) <;> omega
theorem farther_ge (n : Nat) (i : Int) (h : -1 ≤ i) : -1 ≤ farther n i := by unfold farther; split <;> omega
theorem idx2_step (c : UInt8) (l : Bs) (h : ([58, 58] : Bs).isPrefixOf (c :: l) = false) : Lib.index (c :: l) [58, 58] = farther 1 (Lib.index l [58, 58]) := by
  conv => lhs; unfold Lib.index
  rw [h]
  unfold farther
  by_cases e : Lib.index l [58, 58] = -1
  · simp [e]
  · simp [e]
theorem idx2_skip : ∀ (p r : Bs), (∀ c ∈ p, c ≠ 58) → Lib.index (p ++ r) [58, 58] = farther p.length (Lib.index r [58, 58])
  | [], r, _ => (farther_zero _).symm
  | c :: p, r, h => by
    have hc := h c (by simp)
    rw [List.cons_append, idx2_step c (p ++ r) (by simp [List.isPrefixOf]; intro e; exact absurd e.symm hc), idx2_skip p r (fun d hd => h d (by simp [hd])), farther_add _ _ _ (Lib.index_ge _ _), List.length_cons, Nat.add_comm]
theorem idx2_colon (c : UInt8) (r : Bs) (h : c ≠ 58) : Lib.index (58 :: c :: r) [58, 58] = farther 1 (Lib.index (c :: r) [58, 58]) :=
  idx2_step 58 (c :: r) (by simp [List.isPrefixOf]; exact fun e => h e.symm)
theorem idx2_tail : ∀ (gs : List Bs) (T : Bs), (∀ g ∈ gs, g ≠ [] ∧ ∀ c ∈ g, c ≠ 58) → Lib.index (Lib.joinTail [58] gs ++ T) [58, 58] = farther (Lib.joinTail [58] gs).length (Lib.index T [58, 58])
  | [], T, _ => by simp [Lib.joinTail, farther_zero]
  | g :: gs, T, h => by
    have hg := h g (by simp)
    have ih := idx2_tail gs T (fun x hx => h x (by simp [hx]))
    have e : Lib.joinTail [58] (g :: gs) = 58 :: (g ++ Lib.joinTail [58] gs) := by simp [Lib.joinTail]
    obtain ⟨c, g', rfl⟩ : ∃ c g', g = c :: g' := by cases g with
      | nil => exact absurd rfl hg.1
      | cons c g' => exact ⟨c, g', rfl⟩
    have hs := idx2_skip (c :: g') (Lib.joinTail [58] gs ++ T) hg.2
    rw [e, List.cons_append, List.cons_append, List.cons_append, idx2_colon _ _ (hg.2 c (by simp)), ← List.cons_append, ← List.cons_append, List.append_assoc, hs, ih, farther_add _ _ _ (Lib.index_ge _ _), farther_add _ _ _ (Lib.index_ge _ _)]
    congr 1
    simp
    omega
theorem idx2_join (gs : List Bs) (T : Bs) (h : ∀ g ∈ gs, g ≠ [] ∧ ∀ c ∈ g, c ≠ 58) : Lib.index (Lib.join gs [58] ++ T) [58, 58] = farther (Lib.join gs [58]).length (Lib.index T [58, 58]) := by
  cases gs with
  | nil => rw [Lib.join_nil]; simp [farther_zero]
  | cons g gs =>
    rw [Lib.join_cons, List.append_assoc, idx2_skip g _ (h g (by simp)).2, idx2_tail gs T (fun x hx => h x (by simp [hx])), farther_add _ _ _ (Lib.index_ge _ _), List.length_append]
theorem cut2_none {gs : List Bs} (h : ∀ g ∈ gs, g ≠ [] ∧ ∀ c ∈ g, c ≠ 58) : Lib.cut (Lib.join gs [58]) [58, 58] = (Lib.join gs [58], [], false) := by
  have := idx2_join gs [] h
  rw [List.append_nil] at this
  unfold Lib.cut
  rw [this, if_neg (by simp [Lib.index, farther])]
theorem cut2_some {gs : List Bs} (T : Bs) (h : ∀ g ∈ gs, g ≠ [] ∧ ∀ c ∈ g, c ≠ 58) : Lib.cut (Lib.join gs [58] ++ ([58, 58] ++ T)) [58, 58] = (Lib.join gs [58], T, true) := by
  have e0 : Lib.index ([58, 58] ++ T) [58, 58] = 0 := by simp [Lib.index, List.isPrefixOf]
  have := idx2_join gs ([58, 58] ++ T) h
  rw [e0] at this
  unfold Lib.cut
  rw [this]
  unfold farther
  rw [if_pos (by simp)]
  simp [← List.drop_drop]

/-! ### reading -/
def four4 : Nat → Nat → Bs → Option Nat
  | 0, acc, _ => some acc
  | k + 1, acc, s => match decV (Lib.cut s [46]).1 with
    | none => none
    | some n => if (Lib.cut s [46]).2.2 != decide (0 < k) then none else four4 k (acc * 256 + n) (Lib.cut s [46]).2.1
def fourV (s : Bs) : Option Nat := four4 4 0 s
def groupsV (ends : Bool) : Nat → List Nat → Bs → Option (List Nat)
  | 0, _, _ => none
  | k + 1, all, s =>
    if (ends && !(Lib.cut s [58]).2.2 && Lib.contains (Lib.cut s [58]).1 [46]) = true then match fourV (Lib.cut s [58]).1 with
      | none => none
      | some v => some (all ++ [v / 65536, v % 65536])
    else match groupV (Lib.cut s [58]).1 with
      | none => none
      | some g => if (Lib.cut s [58]).2.2 = true then groupsV ends k (all ++ [g]) (Lib.cut s [58]).2.1 else some (all ++ [g])
def sideV (ends : Bool) (s : Bs) : Option (List Nat) := if s = [] then some [] else groupsV ends 8 [] s
def fold16 (l : List Nat) : Nat := l.foldl (fun a g => a * 65536 + g) 0
def joinV (l : List Nat) : Nat := fold16 (l.take 4) * 18446744073709551616 + fold16 (l.drop 4)
def sixV (s : Bs) : Option Nat :=
  if (Lib.cut s [58, 58]).2.2 = false then match groupsV true 8 [] s with
    | none => none
    | some l => if l.length = 8 then some (joinV l) else none
  else match sideV false (Lib.cut s [58, 58]).1, sideV true (Lib.cut s [58, 58]).2.1 with
    | some f, some b => if 8 ≤ f.length + b.length then none else some (joinV (f ++ List.replicate (8 - f.length - b.length) 0 ++ b))
    | _, _ => none
/-- An address: its V (0 of none), and its number. -/
def parseV (s : Bs) : Option (Nat × Nat) := if Lib.contains s [58] = true then (sixV s).map (6, ·) else (fourV s).map (4, ·)

theorem four4_lt : ∀ (k acc : Nat) (s : Bs) (n : Nat), four4 k acc s = some n → n < (acc + 1) * 256 ^ k
  | 0, acc, s, n, h => by simp [four4] at h; simp; omega
  | k + 1, acc, s, n, h => by
    unfold four4 at h
    cases hd : decV (Lib.cut s [46]).1 with
    | none => rw [hd] at h; cases h
    | some d =>
      rw [hd] at h
      simp only at h
      split at h
      · cases h
      · have := four4_lt k _ _ n h
        have hl := decV_lt hd
        rw [Nat.pow_succ]
        calc n < (acc * 256 + d + 1) * 256 ^ k := this
          _ ≤ ((acc + 1) * 256) * 256 ^ k := Nat.mul_le_mul_right _ (by omega)
          _ = (acc + 1) * (256 ^ k * 256) := by rw [Nat.mul_assoc, Nat.mul_comm 256]
theorem fourV_lt {s : Bs} {n : Nat} (h : fourV s = some n) : n < 4294967296 := by have := four4_lt 4 0 s n h; omega
theorem groupsV_lt {ends : Bool} : ∀ (k : Nat) (all : List Nat) (s : Bs) (l : List Nat), (∀ g ∈ all, g < 65536) → groupsV ends k all s = some l → (∀ g ∈ l, g < 65536) ∧ all.length < l.length ∧ l.length ≤ all.length + k + 1
  | 0, _, _, _, _, h => by cases h
  | k + 1, all, s, l, ha, h => by
    unfold groupsV at h
    split at h
    · cases hf : fourV (Lib.cut s [58]).1 with
      | none => rw [hf] at h; cases h
      | some v =>
        rw [hf] at h
        have hv := fourV_lt hf
        simp only [Option.some.injEq] at h
        subst h
        refine ⟨fun g hg => ?_, by simp, by simp⟩
        simp at hg
        rcases hg with hg | rfl | rfl
        · exact ha g hg
        · omega
        · omega
    · cases hf : groupV (Lib.cut s [58]).1 with
      | none => rw [hf] at h; cases h
      | some v =>
        rw [hf] at h
        have hv := groupV_lt hf
        have ha' : ∀ g ∈ all ++ [v], g < 65536 := fun g hg => by
          simp at hg; rcases hg with hg | rfl; exact ha g hg; exact hv
        simp only at h
        split at h
        · have := groupsV_lt k _ _ l ha' h
          simp at this
          exact ⟨this.1, by omega, by omega⟩
        · simp only [Option.some.injEq] at h
          subst h
          exact ⟨ha', by simp, by simp⟩
theorem sideV_lt {ends : Bool} {s : Bs} {l : List Nat} (h : sideV ends s = some l) : (∀ g ∈ l, g < 65536) ∧ l.length ≤ 9 := by
  unfold sideV at h
  split at h
  · cases h; simp
  · have := groupsV_lt 8 [] s l (by simp) h
    exact ⟨this.1, by simpa using this.2.2⟩
theorem fold16_snoc (l : List Nat) (g : Nat) : fold16 (l ++ [g]) = fold16 l * 65536 + g := by unfold fold16; rw [List.foldl_append]; rfl
theorem foldl16_lt : ∀ (l : List Nat) (acc : Nat), (∀ g ∈ l, g < 65536) → l.foldl (fun a g => a * 65536 + g) acc < (acc + 1) * 65536 ^ l.length
  | [], acc, _ => by simp
  | g :: l, acc, h => by
    have := foldl16_lt l (acc * 65536 + g) (fun x hx => h x (by simp [hx]))
    have hg := h g (by simp)
    rw [List.foldl_cons, List.length_cons, Nat.pow_succ]
    calc _ < (acc * 65536 + g + 1) * 65536 ^ l.length := this
      _ ≤ ((acc + 1) * 65536) * 65536 ^ l.length := Nat.mul_le_mul_right _ (by omega)
      _ = (acc + 1) * (65536 ^ l.length * 65536) := by rw [Nat.mul_assoc, Nat.mul_comm 65536]
theorem fold16_lt {l : List Nat} (h : ∀ g ∈ l, g < 65536) (hl : l.length ≤ 4) : fold16 l < 18446744073709551616 := by
  have := foldl16_lt l 0 h
  have hp : 65536 ^ l.length ≤ 65536 ^ 4 := Nat.pow_le_pow_right (by decide) hl
  unfold fold16
  omega
theorem joinV_half {l : List Nat} (h : ∀ g ∈ l, g < 65536) (hl : l.length = 8) :
    hiQ (joinV l) = (fold16 (l.take 4) : Int) ∧ loQ (joinV l) = (fold16 (l.drop 4) : Int) ∧ joinV l < 340282366920938463463374607431768211456 := by
  have a := fold16_lt (l := l.take 4) (fun g hg => h g (List.mem_of_mem_take hg)) (by simp; omega)
  have b := fold16_lt (l := l.drop 4) (fun g hg => h g (List.mem_of_mem_drop hg)) (by simp; omega)
  unfold joinV hiQ loQ
  generalize fold16 (l.take 4) = p at *
  generalize fold16 (l.drop 4) = q at *
  refine ⟨?_, ?_, by omega⟩ <;> omega
theorem sixV_lt {s : Bs} {n : Nat} (h : sixV s = some n) : n < 340282366920938463463374607431768211456 := by
  unfold sixV at h
  split at h
  · cases hg : groupsV true 8 [] s with
    | none => rw [hg] at h; cases h
    | some l =>
      rw [hg] at h
      simp only at h
      split at h
      · cases h
        exact (joinV_half (groupsV_lt 8 [] s l (by simp) hg).1 ‹_›).2.2
      · cases h
  · split at h
    · rename_i f b hf hb
      split at h
      · cases h
      · cases h
        have h1 := sideV_lt hf
        have h2 := sideV_lt hb
        refine (joinV_half (fun g hg => ?_) ?_).2.2
        · simp at hg
          rcases hg with hg | hg | hg
          · exact h1.1 g hg
          · omega
          · exact h2.1 g hg
        · simp; omega
    · cases h

/-! ### telling -/
def grp (n : Nat) : List Nat := [n / 281474976710656 % 65536, n / 4294967296 % 65536, n / 65536 % 65536, n % 65536]
def groupsOf (x : Nat) : List Nat := grp (x / 18446744073709551616) ++ grp (x % 18446744073709551616)
def longest : Nat → Nat → Nat → Nat → List Nat → Nat × Nat
  | _, _, f, t, [] => (f, t)
  | i, start, f, t, g :: r => if g ≠ 0 then longest (i + 1) (i + 1) f t r else if t - f < i + 1 - start then longest (i + 1) start start (i + 1) r else longest (i + 1) start f t r
def tellGroups (l : List Nat) : Bs := Lib.join (l.map hexS) [58]
def tellSix (l : List Nat) : Bs := if (longest 0 0 0 0 l).2 - (longest 0 0 0 0 l).1 < 2 then tellGroups l else tellGroups (l.take (longest 0 0 0 0 l).1) ++ ([58, 58] ++ tellGroups (l.drop (longest 0 0 0 0 l).2))
def tellFour (n : Nat) : Bs := Lib.join [decS (n / 16777216 % 256), decS (n / 65536 % 256), decS (n / 256 % 256), decS (n % 256)] [46]
def okV (v : Int) (x : Nat) : Bool := v == 6 || (v == 4 && decide (x < 4294967296))
def tellV (v : Int) (x : Nat) : Bs := if okV v x = false then [] else if v = 4 then tellFour x else tellSix (groupsOf x)

theorem grp_fold (n : Nat) (h : n < 18446744073709551616) : fold16 (grp n) = n := by unfold grp fold16; simp; omega
theorem groupsOf_len (x : Nat) : (groupsOf x).length = 8 := rfl
theorem groupsOf_lt (x : Nat) : ∀ g ∈ groupsOf x, g < 65536 := by intro g hg; simp [groupsOf, grp] at hg; omega
theorem joinV_groupsOf (x : Nat) (h : x < 340282366920938463463374607431768211456) : joinV (groupsOf x) = x := by
  have e1 : (groupsOf x).take 4 = grp (x / 18446744073709551616) := rfl
  have e2 : (groupsOf x).drop 4 = grp (x % 18446744073709551616) := rfl
  unfold joinV
  rw [e1, e2, grp_fold _ (by omega), grp_fold _ (by omega)]
  omega
theorem longest_is (gs : List Nat) : ∀ (r : List Nat) (i start f t : Nat), gs.drop i = r → start ≤ i → f ≤ t → t ≤ i → i ≤ gs.length → (∀ j, start ≤ j → j < i → gs[j]? = some 0) → (∀ j, f ≤ j → j < t → gs[j]? = some 0) →
    (longest i start f t r).1 ≤ (longest i start f t r).2 ∧ (longest i start f t r).2 ≤ gs.length ∧ ∀ j, (longest i start f t r).1 ≤ j → j < (longest i start f t r).2 → gs[j]? = some 0
  | [], i, start, f, t, hr, hs, hft, hti, hi, hz, hz' => by simp [longest]; exact ⟨hft, by omega, hz'⟩
  | g :: r, i, start, f, t, hr, hs, hft, hti, hi, hz, hz' => by
    have hlt : i < gs.length := by
      by_cases h : i < gs.length
      · exact h
      · rw [List.drop_of_length_le (by omega)] at hr; cases hr
    have hg : gs[i]? = some g := by
      have : (gs.drop i)[0]? = some g := by rw [hr]; rfl
      simpa using this
    have hr' : gs.drop (i + 1) = r := by rw [← List.drop_drop, hr]; rfl
    unfold longest
    split
    · exact longest_is gs r (i + 1) (i + 1) f t hr' (by omega) hft (by omega) (by omega) (fun j h1 h2 => by omega) hz'
    · rename_i h0
      have g0 : g = 0 := by simpa using h0
      have hz2 : ∀ j, start ≤ j → j < i + 1 → gs[j]? = some 0 := fun j h1 h2 => by
        by_cases e : j = i
        · subst e; rw [hg, g0]
        · exact hz j h1 (by omega)
      split
      · exact longest_is gs r (i + 1) start start (i + 1) hr' (by omega) (by omega) (by omega) (by omega) hz2 hz2
      · exact longest_is gs r (i + 1) start f t hr' (by omega) hft (by omega) (by omega) hz2 hz'
theorem longest_all (gs : List Nat) : (longest 0 0 0 0 gs).1 ≤ (longest 0 0 0 0 gs).2 ∧ (longest 0 0 0 0 gs).2 ≤ gs.length ∧ ∀ j, (longest 0 0 0 0 gs).1 ≤ j → j < (longest 0 0 0 0 gs).2 → gs[j]? = some 0 :=
  longest_is gs gs 0 0 0 0 rfl (by omega) (by omega) (by omega) (by omega) (fun j h1 h2 => by omega) (fun j h1 h2 => by omega)
theorem mid_zero (gs : List Nat) (f t : Nat) (h1 : f ≤ t) (h2 : t ≤ gs.length) (hz : ∀ j, f ≤ j → j < t → gs[j]? = some 0) : gs.take f ++ List.replicate (t - f) 0 ++ gs.drop t = gs := by
  apply List.ext_getElem?
  intro j
  by_cases a : j < f
  · rw [List.append_assoc, List.getElem?_append_left (by simp; omega), List.getElem?_take_of_lt a]
  · by_cases b : j < t
    · rw [List.append_assoc, List.getElem?_append_right (by simp; omega), List.getElem?_append_left (by simp; omega), hz j (by omega) b, List.getElem?_replicate]
      simp; omega
    · rw [List.getElem?_append_right (by simp; omega), List.getElem?_drop]
      congr 1
      simp; omega

/-! ### what is told is read as it was -/
theorem tell_mem {l : List Nat} (h : ∀ g ∈ l, g < 65536) : ∀ g ∈ l.map hexS, g ≠ [] ∧ ∀ c ∈ g, c ≠ 58 := by
  intro g hg
  obtain ⟨n, hn, rfl⟩ := List.mem_map.1 hg
  exact ⟨hexS_ne n, fun c hc => (hexS_mem n (h n hn) c hc).1⟩
theorem groups_back (ends : Bool) : ∀ (l all : List Nat) (k : Nat), l ≠ [] → (∀ g ∈ l, g < 65536) → l.length ≤ k → groupsV ends k all (tellGroups l) = some (all ++ l)
  | [], _, _, h, _, _ => absurd rfl h
  | [g], all, k + 1, _, hl, _ => by
    have hg := hl g (by simp)
    have hm := hexS_mem g hg
    have e : tellGroups [g] = hexS g := by unfold tellGroups; exact Lib.join_one _ _
    rw [e]
    unfold groupsV
    rw [cut1_none (fun c hc => (hm c hc).1), has_none (fun c hc => (hm c hc).2), groupV_hexS g hg]
    simp
  | g :: g2 :: l, all, k + 1, _, hl, hk => by
    have hg := hl g (by simp)
    have hm := hexS_mem g hg
    have e : tellGroups (g :: g2 :: l) = hexS g ++ 58 :: tellGroups (g2 :: l) := by
      unfold tellGroups
      simp only [List.map_cons]
      rw [Lib.join_cons, Lib.join_cons]
      simp [Lib.joinTail]
    have ih := groups_back ends (g2 :: l) (all ++ [g]) k (by simp) (fun x hx => hl x (by simp at hx ⊢; right; exact hx)) (by simp at hk ⊢; omega)
    rw [e]
    unfold groupsV
    rw [cut1_some (fun c hc => (hm c hc).1), groupV_hexS g hg]
    simp [ih]
  | [_], _, 0, _, _, hk => by simp at hk
  | _ :: _ :: _, _, 0, _, _, hk => by simp at hk
theorem tellGroups_ne {l : List Nat} (h : l ≠ []) : tellGroups l ≠ [] := by
  cases l with
  | nil => exact absurd rfl h
  | cons g l => unfold tellGroups; rw [List.map_cons, Lib.join_cons]; have := hexS_ne g; simp [this]
theorem side_back (ends : Bool) (l : List Nat) (hl : ∀ g ∈ l, g < 65536) (hk : l.length ≤ 8) : sideV ends (tellGroups l) = some l := by
  by_cases h : l = []
  · subst h; rfl
  · unfold sideV; rw [if_neg (tellGroups_ne h), groups_back ends l [] 8 h hl hk]; rfl
theorem six_back (l : List Nat) (hl : ∀ g ∈ l, g < 65536) (h8 : l.length = 8) : sixV (tellSix l) = some (joinV l) := by
  obtain ⟨a, b, c⟩ := longest_all l
  unfold tellSix
  generalize (longest 0 0 0 0 l).1 = f at *
  generalize (longest 0 0 0 0 l).2 = t at *
  split
  · unfold sixV
    have e := cut2_none (tell_mem hl)
    rw [show tellGroups l = Lib.join (l.map hexS) [58] from rfl, e]
    have g := groups_back true l [] 8 (by intro h; rw [h] at h8; cases h8) hl (by omega)
    rw [show tellGroups l = Lib.join (l.map hexS) [58] from rfl] at g
    rw [if_pos rfl, g]
    simp [h8]
  · unfold sixV
    have hf : ∀ g ∈ l.take f, g < 65536 := fun g hg => hl g (List.mem_of_mem_take hg)
    have hd : ∀ g ∈ l.drop t, g < 65536 := fun g hg => hl g (List.mem_of_mem_drop hg)
    have e := cut2_some (tellGroups (l.drop t)) (tell_mem hf)
    rw [show tellGroups (l.take f) = Lib.join ((l.take f).map hexS) [58] from rfl, e]
    have s1 := side_back false _ hf (by simp; omega)
    have s2 := side_back true _ hd (by simp; omega)
    rw [show tellGroups (l.take f) = Lib.join ((l.take f).map hexS) [58] from rfl] at s1
    rw [if_neg (by simp), s1, s2]
    have hlen : (l.take f).length + (l.drop t).length = f + (8 - t) := by simp; omega
    simp only
    rw [if_neg (by omega), show 8 - (l.take f).length - (l.drop t).length = t - f by simp; omega, mid_zero l f t a b c]
theorem four_back (n : Nat) (h : n < 4294967296) : fourV (tellFour n) = some n := by
  have e : tellFour n = decS (n / 16777216 % 256) ++ 46 :: (decS (n / 65536 % 256) ++ 46 :: (decS (n / 256 % 256) ++ 46 :: decS (n % 256))) := by
    unfold tellFour; rw [Lib.join_cons]; simp [Lib.joinTail]
  have m := fun k (hk : k < 256) c hc => (decS_mem k hk c hc).2
  rw [e]
  unfold fourV four4
  rw [cut1_some (m _ (by omega)), decV_decS _ (by omega)]
  simp only [decide_true, bne_self_eq_false, Bool.false_eq_true, if_false, Nat.zero_lt_succ]
  unfold four4
  rw [cut1_some (m _ (by omega)), decV_decS _ (by omega)]
  simp only [decide_true, bne_self_eq_false, Bool.false_eq_true, if_false, Nat.zero_lt_succ]
  unfold four4
  rw [cut1_some (m _ (by omega)), decV_decS _ (by omega)]
  simp only [decide_true, bne_self_eq_false, Bool.false_eq_true, if_false, Nat.zero_lt_succ]
  unfold four4
  rw [cut1_none (m _ (by omega)), decV_decS _ (by omega)]
  simp only [Nat.lt_irrefl, decide_false, bne_self_eq_false, Bool.false_eq_true, if_false]
  unfold four4
  congr 1
  omega
theorem tellSix_colon (l : List Nat) (h8 : l.length = 8) : 58 ∈ tellSix l := by
  unfold tellSix
  split
  · match l, h8 with
    | a :: b :: r, _ =>
      unfold tellGroups
      simp only [List.map_cons]
      rw [Lib.join_cons]
      simp [Lib.joinTail]
  · simp
theorem tellFour_plain (n : Nat) : ∀ c ∈ tellFour n, c ≠ 58 := by
  have e : tellFour n = decS (n / 16777216 % 256) ++ 46 :: (decS (n / 65536 % 256) ++ 46 :: (decS (n / 256 % 256) ++ 46 :: decS (n % 256))) := by
    unfold tellFour; rw [Lib.join_cons]; simp [Lib.joinTail]
  have m := fun k (hk : k < 256) c hc => (decS_mem k hk c hc).1
  rw [e]
  intro c hc
  simp only [List.mem_append, List.mem_cons] at hc
  rcases hc with hc | rfl | hc | rfl | hc | rfl | hc
  · exact m _ (by omega) c hc
  · decide
  · exact m _ (by omega) c hc
  · decide
  · exact m _ (by omega) c hc
  · decide
  · exact m _ (by omega) c hc
theorem okV_cases {v : Int} {x : Nat} (h : okV v x = true) : v = 6 ∨ (v = 4 ∧ x < 4294967296) := by simpa [okV] using h
theorem parse_tell (v : Int) (x : Nat) (h : okV v x = true) (hx : x < 340282366920938463463374607431768211456) : parseV (tellV v x) = some (v.toNat, x) := by
  unfold tellV
  rw [if_neg (by simp [h])]
  rcases okV_cases h with rfl | ⟨rfl, hx4⟩
  · rw [if_neg (by decide)]
    unfold parseV
    rw [if_pos (has_some (tellSix_colon _ (groupsOf_len x))), six_back _ (groupsOf_lt x) (groupsOf_len x), joinV_groupsOf x hx]
    rfl
  · rw [if_pos rfl]
    unfold parseV
    rw [has_none (tellFour_plain x), if_neg (by decide), four_back x hx4]
    rfl
theorem parseV_ok {s : Bs} {v x : Nat} (h : parseV s = some (v, x)) : okV v x = true ∧ x < 340282366920938463463374607431768211456 ∧ (v = 4 ∨ v = 6) := by
  unfold parseV at h
  split at h
  · cases hs : sixV s with
    | none => rw [hs] at h; cases h
    | some n =>
      rw [hs] at h
      simp at h
      obtain ⟨rfl, rfl⟩ := h
      exact ⟨by simp [okV], sixV_lt hs, Or.inr rfl⟩
  · cases hs : fourV s with
    | none => rw [hs] at h; cases h
    | some n =>
      rw [hs] at h
      simp at h
      obtain ⟨rfl, rfl⟩ := h
      have := fourV_lt hs
      exact ⟨by simp [okV, this], by omega, Or.inl rfl⟩
theorem join_len_le (gs : List Bs) (sep : Bs) (m : Nat) (h : ∀ g ∈ gs, g.length ≤ m) : (Lib.join gs sep).length ≤ gs.length * (m + sep.length) := by
  have ht : ∀ r : List Bs, (∀ g ∈ r, g.length ≤ m) → (Lib.joinTail sep r).length ≤ r.length * (m + sep.length) := by
    intro r
    induction r with
    | nil => intro _; simp [Lib.joinTail]
    | cons g r ih =>
      intro hr
      have := ih (fun x hx => hr x (by simp [hx]))
      have hg := hr g (by simp)
      have e : Lib.joinTail sep (g :: r) = sep ++ g ++ Lib.joinTail sep r := by simp [Lib.joinTail]
      rw [e, List.length_cons, Nat.succ_mul]
      simp
      omega
  cases gs with
  | nil => simp [Lib.join_nil]
  | cons g r =>
    have := ht r (fun x hx => h x (by simp [hx]))
    have hg := h g (by simp)
    rw [Lib.join_cons, List.length_cons, Nat.succ_mul, List.length_append]
    omega
theorem tellGroups_len (l : List Nat) : (tellGroups l).length ≤ l.length * 5 := by
  have := join_len_le (l.map hexS) [58] 4 (fun g hg => by obtain ⟨n, _, rfl⟩ := List.mem_map.1 hg; exact (hexS_len n).2)
  simpa [tellGroups] using this
theorem tellV_len (v : Int) (x : Nat) : (tellV v x).length ≤ 100 := by
  unfold tellV
  split
  · simp
  · split
    · unfold tellFour
      have := join_len_le [decS (x / 16777216 % 256), decS (x / 65536 % 256), decS (x / 256 % 256), decS (x % 256)] [46] 3 (fun g hg => by
        simp at hg; rcases hg with rfl | rfl | rfl | rfl <;> exact (decS_len _).2)
      simp at this
      omega
    · unfold tellSix
      have h8 := groupsOf_len x
      split
      · have := tellGroups_len (groupsOf x); omega
      · rename_i h
        have a := tellGroups_len ((groupsOf x).take (longest 0 0 0 0 (groupsOf x)).1)
        have b := tellGroups_len ((groupsOf x).drop (longest 0 0 0 0 (groupsOf x)).2)
        simp only [List.length_append, List.length_take, List.length_drop] at a b ⊢
        simp
        omega
end Go.Proofs.YtmnemjhkmllniaaDoor
