/- Addresses and their texts, as plain mathematics: how a text is read, how an address is told, and that what is told is read as it was. No program stands in this text. -/
import Derived.Lib.IndexMore
import Derived.Lib.CutLaws
import Derived.Lib.Join
import Derived.Lib.ParseIntB
import Derived.Lib.ItoaNum
import Derived.Test.YtmnemjhkmllniaaGreatDoorzQm
namespace Go.Proofs.YtmnemjhkmllniaaGreatDoor

abbrev Bs := List UInt8

/-! ### digits and groups -/
def hexD (c : UInt8) : Option Nat :=
  if 48 ≤ c.toNat ∧ c.toNat ≤ 57 then some (c.toNat - 48)
  else if 97 ≤ c.toNat ∧ c.toNat ≤ 102 then some (c.toNat - 87)
  else if 65 ≤ c.toNat ∧ c.toNat ≤ 70 then some (c.toNat - 55) else none
def hexM (acc : Nat) : Bs → Option Nat
  | [] => some acc
  | c :: r => match hexD c with
    | none => none
    | some d => hexM (acc * 16 + d) r
def groupV (l : Bs) : Option Nat := if l = [] ∨ 4 < l.length then none else hexM 0 l
def decV (l : Bs) : Option Nat := if 3 < l.length ∨ (1 < l.length ∧ l.head? = some 48) then none else match Lib.parseUintB 8 l with
  | .ok u => some u
  | _ => none
def hexC (d : Nat) : UInt8 := UInt8.ofNat (if d < 10 then 48 + d else 87 + d)
def hexS (n : Nat) : Bs :=
  if n < 16 then [hexC n] else if n < 256 then [hexC (n / 16), hexC (n % 16)]
  else if n < 4096 then [hexC (n / 256), hexC (n / 16 % 16), hexC (n % 16)]
  else [hexC (n / 4096), hexC (n / 256 % 16), hexC (n / 16 % 16), hexC (n % 16)]
def decC (d : Nat) : UInt8 := UInt8.ofNat (48 + d)
def decS (n : Nat) : Bs := if n < 10 then [decC n] else if n < 100 then [decC (n / 10), decC (n % 10)] else [decC (n / 100), decC (n / 10 % 10), decC (n % 10)]

theorem hexD_lt {c : UInt8} {d : Nat} (h : hexD c = some d) : d < 16 := by
  unfold hexD at h
  split at h
  · simp at h; omega
  · split at h
    · simp at h; omega
    · split at h
      · simp at h; omega
      · simp at h
theorem hexM_lt : ∀ (l : Bs) (acc n : Nat), hexM acc l = some n → n < (acc + 1) * 16 ^ l.length
  | [], acc, n, h => by simp [hexM] at h; simp; omega
  | c :: r, acc, n, h => by
    unfold hexM at h
    cases hd : hexD c with
    | none => rw [hd] at h; cases h
    | some d =>
      rw [hd] at h
      have := hexM_lt r _ n h
      have hl := hexD_lt hd
      rw [List.length_cons, Nat.pow_succ]
      calc n < (acc * 16 + d + 1) * 16 ^ r.length := this
        _ ≤ ((acc + 1) * 16) * 16 ^ r.length := Nat.mul_le_mul_right _ (by omega)
        _ = (acc + 1) * (16 ^ r.length * 16) := by rw [Nat.mul_assoc, Nat.mul_comm 16]
theorem groupV_lt {l : Bs} {n : Nat} (h : groupV l = some n) : n < 65536 := by
  unfold groupV at h
  split at h
  · cases h
  · have := hexM_lt l 0 n h
    have hp : 16 ^ l.length ≤ 16 ^ 4 := Nat.pow_le_pow_right (by decide) (by omega)
    omega
theorem hexD_C : ∀ d, d < 16 → hexD (hexC d) = some d := by decide
theorem hexC_ne : ∀ d, d < 16 → hexC d ≠ 58 ∧ hexC d ≠ 46 := by decide
theorem hexM_C {acc d : Nat} {r : Bs} (h : d < 16) : hexM acc (hexC d :: r) = hexM (acc * 16 + d) r := by
  conv => lhs; unfold hexM
  rw [hexD_C d h]
theorem groupV_hexS (n : Nat) (h : n < 65536) : groupV (hexS n) = some n := by
  unfold hexS
  split
  · rw [groupV, if_neg (by simp), hexM_C (by omega)]; simp [hexM]
  · split
    · rw [groupV, if_neg (by simp), hexM_C (by omega), hexM_C (by omega)]; simp [hexM]; omega
    · split
      · rw [groupV, if_neg (by simp), hexM_C (by omega), hexM_C (by omega), hexM_C (by omega)]; simp [hexM]; omega
      · rw [groupV, if_neg (by simp), hexM_C (by omega), hexM_C (by omega), hexM_C (by omega), hexM_C (by omega)]; simp [hexM]; omega
theorem hexS_mem (n : Nat) (h : n < 65536) : ∀ c ∈ hexS n, c ≠ 58 ∧ c ≠ 46 := by
  intro c hc
  unfold hexS at hc
  split at hc
  · simp at hc; subst hc; exact hexC_ne _ (by omega)
  · split at hc
    · simp at hc; rcases hc with rfl | rfl <;> exact hexC_ne _ (by omega)
    · split at hc
      · simp at hc; rcases hc with rfl | rfl | rfl <;> exact hexC_ne _ (by omega)
      · simp at hc; rcases hc with rfl | rfl | rfl | rfl <;> exact hexC_ne _ (by omega)
theorem hexS_ne (n : Nat) : hexS n ≠ [] := by unfold hexS; split <;> (try split) <;> (try split) <;> simp
theorem hexS_len (n : Nat) : 1 ≤ (hexS n).length ∧ (hexS n).length ≤ 4 := by unfold hexS; split <;> (try split) <;> (try split) <;> simp
theorem decV_decS : ∀ n, n < 256 → decV (decS n) = some n := by decide +kernel
theorem decS_mem : ∀ n, n < 256 → ∀ c ∈ decS n, c ≠ 58 ∧ c ≠ 46 := by decide +kernel
theorem decS_len (n : Nat) : 1 ≤ (decS n).length ∧ (decS n).length ≤ 3 := by unfold decS; split <;> (try split) <;> simp
theorem decS_eq (n : Nat) (h : n < 1000) : Lib.decDigits n = decS n := by
  unfold decS decC
  split
  · exact Lib.decDigits_one ‹_›
  · split
    · exact Lib.decDigits_two ‹_› ‹_›
    · rw [Lib.decDigits, dif_neg ‹_›, Lib.decDigits_two (by omega) (by omega), Nat.div_div_eq_div_mul]; rfl
theorem parseUintM_le : ∀ (l : Bs) (M acc u : Nat), acc ≤ M → Lib.parseUintM M acc l = .ok u → u ≤ M
  | [], M, acc, u, ha, h => by simp [Lib.parseUintM] at h; omega
  | c :: r, M, acc, u, ha, h => by
    unfold Lib.parseUintM at h
    split at h
    · split at h
      · cases h
      · split at h
        · cases h
        · exact parseUintM_le r M _ u (by omega) h
    · cases h
theorem decV_lt {l : Bs} {n : Nat} (h : decV l = some n) : n < 256 := by
  unfold decV at h
  split at h
  · cases h
  · split at h
    · rename_i u hu
      cases h
      unfold Lib.parseUintB at hu
      split at hu
      · cases hu
      · have := parseUintM_le _ _ _ _ (by decide) hu
        omega
    · cases h

/-! ### where a byte, or two, first stand -/
theorem idx1_none : ∀ (l : Bs) (k : UInt8), (∀ c ∈ l, c ≠ k) → Lib.index l [k] = -1
  | [], k, _ => rfl
  | b :: l, k, h => by
    unfold Lib.index
    have hb : ([k] : Bs).isPrefixOf (b :: l) = false := by
      have := h b (by simp)
      simp [List.isPrefixOf]
      exact fun e => this e.symm
    rw [hb, idx1_none l k (fun c hc => h c (by simp [hc]))]
    rfl
theorem idx1_some : ∀ (p : Bs) (k : UInt8) (r : Bs), (∀ c ∈ p, c ≠ k) → Lib.index (p ++ k :: r) [k] = p.length
  | [], k, r, _ => by simp [Lib.index, List.isPrefixOf]
  | b :: p, k, r, h => by
    rw [List.cons_append]
    unfold Lib.index
    have hb : ([k] : Bs).isPrefixOf (b :: (p ++ k :: r)) = false := by
      have := h b (by simp)
      simp [List.isPrefixOf]
      exact fun e => this e.symm
    rw [hb, idx1_some p k r (fun c hc => h c (by simp [hc]))]
    have : ((p.length : Int) == -1) = false := by rw [beq_eq_false_iff_ne]; omega
    simp [this]
theorem cut1_none {l : Bs} {k : UInt8} (h : ∀ c ∈ l, c ≠ k) : Lib.cut l [k] = (l, [], false) := by
  unfold Lib.cut; rw [idx1_none l k h, if_neg (by decide)]
theorem cut1_some {p r : Bs} {k : UInt8} (h : ∀ c ∈ p, c ≠ k) : Lib.cut (p ++ k :: r) [k] = (p, r, true) := by
  unfold Lib.cut
  rw [idx1_some p k r h, if_pos (by omega), Int.toNat_natCast, List.take_left, List.length_singleton, ← List.drop_drop, List.drop_left]
  rfl
theorem has_none {l : Bs} {k : UInt8} (h : ∀ c ∈ l, c ≠ k) : Lib.contains l [k] = false := by
  unfold Lib.contains; rw [idx1_none l k h]; rfl
theorem has_some {l : Bs} {k : UInt8} (h : k ∈ l) : Lib.contains l [k] = true := by
  by_cases hh : ∃ p r, l = p ++ k :: r ∧ ∀ c ∈ p, c ≠ k
  · obtain ⟨p, r, rfl, hp⟩ := hh
    unfold Lib.contains; rw [idx1_some p k r hp]; exact decide_eq_true (by omega)
  · exfalso; apply hh
    clear hh
    induction l with
    | nil => cases h
    | cons b l ih =>
      by_cases hb : b = k
      · exact ⟨[], l, by simp [hb], by simp⟩
      · obtain ⟨p, r, rfl, hp⟩ := ih (by rcases List.mem_cons.1 h with e | e; exact absurd e.symm hb; exact e)
        exact ⟨b :: p, r, rfl, fun c hc => by rcases List.mem_cons.1 hc with rfl | e; exact hb; exact hp c e⟩
/-- '-1' stays, every other place is so much farther. -/
def farther (n : Nat) (i : Int) : Int := if i = -1 then -1 else i + n
theorem farther_zero (i : Int) : farther 0 i = i := by unfold farther; split <;> omega
theorem farther_add (a b : Nat) (i : Int) (h : -1 ≤ i) : farther a (farther b i) = farther (a + b) i := by unfold farther; split <;> (try split) <;> omega
theorem farther_ge (n : Nat) (i : Int) (h : -1 ≤ i) : -1 ≤ farther n i := by unfold farther; split <;> omega
theorem idx2_step (c : UInt8) (l : Bs) (h : ([58, 58] : Bs).isPrefixOf (c :: l) = false) : Lib.index (c :: l) [58, 58] = farther 1 (Lib.index l [58, 58]) := by
  conv => lhs; unfold Lib.index
  rw [h]
  unfold farther
  by_cases e : Lib.index l [58, 58] = -1
  · simp [e]
  · simp [e]
theorem idx2_skip : ∀ (p r : Bs), (∀ c ∈ p, c ≠ 58) → Lib.index (p ++ r) [58, 58] = farther p.length (Lib.index r [58, 58])
  | [], r, _ => (farther_zero _).symm
  | c :: p, r, h => by
    have hc := h c (by simp)
    rw [List.cons_append, idx2_step c (p ++ r) (by simp [List.isPrefixOf]; intro e; exact absurd e.symm hc), idx2_skip p r (fun d hd => h d (by simp [hd])), farther_add _ _ _ (Lib.index_ge _ _), List.length_cons, Nat.add_comm]
theorem idx2_colon (c : UInt8) (r : Bs) (h : c ≠ 58) : Lib.index (58 :: c :: r) [58, 58] = farther 1 (Lib.index (c :: r) [58, 58]) :=
  idx2_step 58 (c :: r) (by simp [List.isPrefixOf]; exact fun e => h e.symm)
theorem idx2_tail : ∀ (gs : List Bs) (T : Bs), (∀ g ∈ gs, g ≠ [] ∧ ∀ c ∈ g, c ≠ 58) → Lib.index (Lib.joinTail [58] gs ++ T) [58, 58] = farther (Lib.joinTail [58] gs).length (Lib.index T [58, 58])
  | [], T, _ => by simp [Lib.joinTail, farther_zero]
  | g :: gs, T, h => by
    have hg := h g (by simp)
    have ih := idx2_tail gs T (fun x hx => h x (by simp [hx]))
    have e : Lib.joinTail [58] (g :: gs) = 58 :: (g ++ Lib.joinTail [58] gs) := by simp [Lib.joinTail]
    obtain ⟨c, g', rfl⟩ : ∃ c g', g = c :: g' := by cases g with
      | nil => exact absurd rfl hg.1
      | cons c g' => exact ⟨c, g', rfl⟩
    have hs := idx2_skip (c :: g') (Lib.joinTail [58] gs ++ T) hg.2
    rw [e, List.cons_append, List.cons_append, List.cons_append, idx2_colon _ _ (hg.2 c (by simp)), ← List.cons_append, ← List.cons_append, List.append_assoc, hs, ih, farther_add _ _ _ (Lib.index_ge _ _), farther_add _ _ _ (Lib.index_ge _ _)]
    congr 1
    simp
    omega
theorem idx2_join (gs : List Bs) (T : Bs) (h : ∀ g ∈ gs, g ≠ [] ∧ ∀ c ∈ g, c ≠ 58) : Lib.index (Lib.join gs [58] ++ T) [58, 58] = farther (Lib.join gs [58]).length (Lib.index T [58, 58]) := by
  cases gs with
  | nil => rw [Lib.join_nil]; simp [farther_zero]
  | cons g gs =>
    rw [Lib.join_cons, List.append_assoc, idx2_skip g _ (h g (by simp)).2, idx2_tail gs T (fun x hx => h x (by simp [hx])), farther_add _ _ _ (Lib.index_ge _ _), List.length_append]
theorem cut2_none {gs : List Bs} (h : ∀ g ∈ gs, g ≠ [] ∧ ∀ c ∈ g, c ≠ 58) : Lib.cut (Lib.join gs [58]) [58, 58] = (Lib.join gs [58], [], false) := by
  have := idx2_join gs [] h
  rw [List.append_nil] at this
  unfold Lib.cut
  rw [this, if_neg (by simp [Lib.index, farther])]
theorem cut2_some {gs : List Bs} (T : Bs) (h : ∀ g ∈ gs, g ≠ [] ∧ ∀ c ∈ g, c ≠ 58) : Lib.cut (Lib.join gs [58] ++ ([58, 58] ++ T)) [58, 58] = (Lib.join gs [58], T, true) := by
  have e0 : Lib.index ([58, 58] ++ T) [58, 58] = 0 := by simp [Lib.index, List.isPrefixOf]
  have := idx2_join gs ([58, 58] ++ T) h
  rw [e0] at this
  unfold Lib.cut
  rw [this]
  unfold farther
  rw [if_pos (by simp)]
  simp [← List.drop_drop]

/-! ### reading -/
def four4 : Nat → Nat → Bs → Option Nat
  | 0, acc, _ => some acc
  | k + 1, acc, s => match decV (Lib.cut s [46]).1 with
    | none => none
    | some n => if (Lib.cut s [46]).2.2 != decide (0 < k) then none else four4 k (acc * 256 + n) (Lib.cut s [46]).2.1
def fourV (s : Bs) : Option Nat := four4 4 0 s
def groupsV (ends : Bool) : Nat → List Nat → Bs → Option (List Nat)
  | 0, _, _ => none
  | k + 1, all, s =>
    if (ends && !(Lib.cut s [58]).2.2 && Lib.contains (Lib.cut s [58]).1 [46]) = true then match fourV (Lib.cut s [58]).1 with
      | none => none
      | some v => some (all ++ [v / 65536, v % 65536])
    else match groupV (Lib.cut s [58]).1 with
      | none => none
      | some g => if (Lib.cut s [58]).2.2 = true then groupsV ends k (all ++ [g]) (Lib.cut s [58]).2.1 else some (all ++ [g])
def sideV (ends : Bool) (s : Bs) : Option (List Nat) := if s = [] then some [] else groupsV ends 8 [] s
def fold16 (l : List Nat) : Nat := l.foldl (fun a g => a * 65536 + g) 0
def joinV (l : List Nat) : Nat := fold16 (l.take 4) * 18446744073709551616 + fold16 (l.drop 4)
def sixV (s : Bs) : Option Nat :=
  if (Lib.cut s [58, 58]).2.2 = false then match groupsV true 8 [] s with
    | none => none
    | some l => if l.length = 8 then some (joinV l) else none
  else match sideV false (Lib.cut s [58, 58]).1, sideV true (Lib.cut s [58, 58]).2.1 with
    | some f, some b => if 8 ≤ f.length + b.length then none else some (joinV (f ++ List.replicate (8 - f.length - b.length) 0 ++ b))
    | _, _ => none
/-- An address: its V (0 of none), and its number. -/
def parseV (s : Bs) : Option (Nat × Nat) := if Lib.contains s [58] = true then (sixV s).map (6, ·) else (fourV s).map (4, ·)

theorem four4_lt : ∀ (k acc : Nat) (s : Bs) (n : Nat), four4 k acc s = some n → n < (acc + 1) * 256 ^ k
  | 0, acc, s, n, h => by simp [four4] at h; simp; omega
  | k + 1, acc, s, n, h => by
    unfold four4 at h
    cases hd : decV (Lib.cut s [46]).1 with
    | none => rw [hd] at h; cases h
    | some d =>
      rw [hd] at h
      simp only at h
      split at h
      · cases h
      · have := four4_lt k _ _ n h
        have hl := decV_lt hd
        rw [Nat.pow_succ]
        calc n < (acc * 256 + d + 1) * 256 ^ k := this
          _ ≤ ((acc + 1) * 256) * 256 ^ k := Nat.mul_le_mul_right _ (by omega)
          _ = (acc + 1) * (256 ^ k * 256) := by rw [Nat.mul_assoc, Nat.mul_comm 256]
theorem fourV_lt {s : Bs} {n : Nat} (h : fourV s = some n) : n < 4294967296 := by have := four4_lt 4 0 s n h; omega
theorem groupsV_lt {ends : Bool} : ∀ (k : Nat) (all : List Nat) (s : Bs) (l : List Nat), (∀ g ∈ all, g < 65536) → groupsV ends k all s = some l → (∀ g ∈ l, g < 65536) ∧ all.length < l.length ∧ l.length ≤ all.length + k + 1
  | 0, _, _, _, _, h => by cases h
  | k + 1, all, s, l, ha, h => by
    unfold groupsV at h
    split at h
    · cases hf : fourV (Lib.cut s [58]).1 with
      | none => rw [hf] at h; cases h
      | some v =>
        rw [hf] at h
        have hv := fourV_lt hf
        simp only [Option.some.injEq] at h
        subst h
        refine ⟨fun g hg => ?_, by simp, by simp⟩
        simp at hg
        rcases hg with hg | rfl | rfl
        · exact ha g hg
        · omega
        · omega
    · cases hf : groupV (Lib.cut s [58]).1 with
      | none => rw [hf] at h; cases h
      | some v =>
        rw [hf] at h
        have hv := groupV_lt hf
        have ha' : ∀ g ∈ all ++ [v], g < 65536 := fun g hg => by
          simp at hg; rcases hg with hg | rfl; exact ha g hg; exact hv
        simp only at h
        split at h
        · have := groupsV_lt k _ _ l ha' h
          simp at this
          exact ⟨this.1, by omega, by omega⟩
        · simp only [Option.some.injEq] at h
          subst h
          exact ⟨ha', by simp, by simp⟩
theorem sideV_lt {ends : Bool} {s : Bs} {l : List Nat} (h : sideV ends s = some l) : (∀ g ∈ l, g < 65536) ∧ l.length ≤ 9 := by
  unfold sideV at h
  split at h
  · cases h; simp
  · have := groupsV_lt 8 [] s l (by simp) h
    exact ⟨this.1, by simpa using this.2.2⟩
theorem fold16_snoc (l : List Nat) (g : Nat) : fold16 (l ++ [g]) = fold16 l * 65536 + g := by unfold fold16; rw [List.foldl_append]; rfl
theorem foldl16_lt : ∀ (l : List Nat) (acc : Nat), (∀ g ∈ l, g < 65536) → l.foldl (fun a g => a * 65536 + g) acc < (acc + 1) * 65536 ^ l.length
  | [], acc, _ => by simp
  | g :: l, acc, h => by
    have := foldl16_lt l (acc * 65536 + g) (fun x hx => h x (by simp [hx]))
    have hg := h g (by simp)
    rw [List.foldl_cons, List.length_cons, Nat.pow_succ]
    calc _ < (acc * 65536 + g + 1) * 65536 ^ l.length := this
      _ ≤ ((acc + 1) * 65536) * 65536 ^ l.length := Nat.mul_le_mul_right _ (by omega)
      _ = (acc + 1) * (65536 ^ l.length * 65536) := by rw [Nat.mul_assoc, Nat.mul_comm 65536]
theorem fold16_lt {l : List Nat} (h : ∀ g ∈ l, g < 65536) (hl : l.length ≤ 4) : fold16 l < 18446744073709551616 := by
  have := foldl16_lt l 0 h
  have hp : 65536 ^ l.length ≤ 65536 ^ 4 := Nat.pow_le_pow_right (by decide) hl
  unfold fold16
  omega
theorem joinV_half {l : List Nat} (h : ∀ g ∈ l, g < 65536) (hl : l.length = 8) :
    hiQ (joinV l) = (fold16 (l.take 4) : Int) ∧ loQ (joinV l) = (fold16 (l.drop 4) : Int) ∧ joinV l < 340282366920938463463374607431768211456 := by
  have a := fold16_lt (l := l.take 4) (fun g hg => h g (List.mem_of_mem_take hg)) (by simp; omega)
  have b := fold16_lt (l := l.drop 4) (fun g hg => h g (List.mem_of_mem_drop hg)) (by simp; omega)
  unfold joinV hiQ loQ
  generalize fold16 (l.take 4) = p at *
  generalize fold16 (l.drop 4) = q at *
  refine ⟨?_, ?_, by omega⟩ <;> omega
theorem sixV_lt {s : Bs} {n : Nat} (h : sixV s = some n) : n < 340282366920938463463374607431768211456 := by
  unfold sixV at h
  split at h
  · cases hg : groupsV true 8 [] s with
    | none => rw [hg] at h; cases h
    | some l =>
      rw [hg] at h
      simp only at h
      split at h
      · cases h
        exact (joinV_half (groupsV_lt 8 [] s l (by simp) hg).1 ‹_›).2.2
      · cases h
  · split at h
    · rename_i f b hf hb
      split at h
      · cases h
      · cases h
        have h1 := sideV_lt hf
        have h2 := sideV_lt hb
        refine (joinV_half (fun g hg => ?_) ?_).2.2
        · simp at hg
          rcases hg with hg | hg | hg
          · exact h1.1 g hg
          · omega
          · exact h2.1 g hg
        · simp; omega
    · cases h

/-! ### telling -/
def grp (n : Nat) : List Nat := [n / 281474976710656 % 65536, n / 4294967296 % 65536, n / 65536 % 65536, n % 65536]
def groupsOf (x : Nat) : List Nat := grp (x / 18446744073709551616) ++ grp (x % 18446744073709551616)
def longest : Nat → Nat → Nat → Nat → List Nat → Nat × Nat
  | _, _, f, t, [] => (f, t)
  | i, start, f, t, g :: r => if g ≠ 0 then longest (i + 1) (i + 1) f t r else if t - f < i + 1 - start then longest (i + 1) start start (i + 1) r else longest (i + 1) start f t r
def tellGroups (l : List Nat) : Bs := Lib.join (l.map hexS) [58]
def tellSix (l : List Nat) : Bs := if (longest 0 0 0 0 l).2 - (longest 0 0 0 0 l).1 < 2 then tellGroups l else tellGroups (l.take (longest 0 0 0 0 l).1) ++ ([58, 58] ++ tellGroups (l.drop (longest 0 0 0 0 l).2))
def tellFour (n : Nat) : Bs := Lib.join [decS (n / 16777216 % 256), decS (n / 65536 % 256), decS (n / 256 % 256), decS (n % 256)] [46]
def okV (v : Int) (x : Nat) : Bool := v == 6 || (v == 4 && decide (x < 4294967296))
def tellV (v : Int) (x : Nat) : Bs := if okV v x = false then [] else if v = 4 then tellFour x else tellSix (groupsOf x)

theorem grp_fold (n : Nat) (h : n < 18446744073709551616) : fold16 (grp n) = n := by unfold grp fold16; simp; omega
theorem groupsOf_len (x : Nat) : (groupsOf x).length = 8 := rfl
theorem groupsOf_lt (x : Nat) : ∀ g ∈ groupsOf x, g < 65536 := by intro g hg; simp [groupsOf, grp] at hg; omega
theorem joinV_groupsOf (x : Nat) (h : x < 340282366920938463463374607431768211456) : joinV (groupsOf x) = x := by
  have e1 : (groupsOf x).take 4 = grp (x / 18446744073709551616) := rfl
  have e2 : (groupsOf x).drop 4 = grp (x % 18446744073709551616) := rfl
  unfold joinV
  rw [e1, e2, grp_fold _ (by omega), grp_fold _ (by omega)]
  omega
theorem longest_is (gs : List Nat) : ∀ (r : List Nat) (i start f t : Nat), gs.drop i = r → start ≤ i → f ≤ t → t ≤ i → i ≤ gs.length → (∀ j, start ≤ j → j < i → gs[j]? = some 0) → (∀ j, f ≤ j → j < t → gs[j]? = some 0) →
    (longest i start f t r).1 ≤ (longest i start f t r).2 ∧ (longest i start f t r).2 ≤ gs.length ∧ ∀ j, (longest i start f t r).1 ≤ j → j < (longest i start f t r).2 → gs[j]? = some 0
  | [], i, start, f, t, hr, hs, hft, hti, hi, hz, hz' => by simp [longest]; exact ⟨hft, by omega, hz'⟩
  | g :: r, i, start, f, t, hr, hs, hft, hti, hi, hz, hz' => by
    have hlt : i < gs.length := by
      by_cases h : i < gs.length
      · exact h
      · rw [List.drop_of_length_le (by omega)] at hr; cases hr
    have hg : gs[i]? = some g := by
      have : (gs.drop i)[0]? = some g := by rw [hr]; rfl
      simpa using this
    have hr' : gs.drop (i + 1) = r := by rw [← List.drop_drop, hr]; rfl
    unfold longest
    split
    · exact longest_is gs r (i + 1) (i + 1) f t hr' (by omega) hft (by omega) (by omega) (fun j h1 h2 => by omega) hz'
    · rename_i h0
      have g0 : g = 0 := by simpa using h0
      have hz2 : ∀ j, start ≤ j → j < i + 1 → gs[j]? = some 0 := fun j h1 h2 => by
        by_cases e : j = i
        · subst e; rw [hg, g0]
        · exact hz j h1 (by omega)
      split
      · exact longest_is gs r (i + 1) start start (i + 1) hr' (by omega) (by omega) (by omega) (by omega) hz2 hz2
      · exact longest_is gs r (i + 1) start f t hr' (by omega) hft (by omega) (by omega) hz2 hz'
theorem longest_all (gs : List Nat) : (longest 0 0 0 0 gs).1 ≤ (longest 0 0 0 0 gs).2 ∧ (longest 0 0 0 0 gs).2 ≤ gs.length ∧ ∀ j, (longest 0 0 0 0 gs).1 ≤ j → j < (longest 0 0 0 0 gs).2 → gs[j]? = some 0 :=
  longest_is gs gs 0 0 0 0 rfl (by omega) (by omega) (by omega) (by omega) (fun j h1 h2 => by omega) (fun j h1 h2 => by omega)
theorem mid_zero (gs : List Nat) (f t : Nat) (h1 : f ≤ t) (h2 : t ≤ gs.length) (hz : ∀ j, f ≤ j → j < t → gs[j]? = some 0) : gs.take f ++ List.replicate (t - f) 0 ++ gs.drop t = gs := by
  apply List.ext_getElem?
  intro j
  by_cases a : j < f
  · rw [List.append_assoc, List.getElem?_append_left (by simp; omega), List.getElem?_take_of_lt a]
  · by_cases b : j < t
    · rw [List.append_assoc, List.getElem?_append_right (by simp; omega), List.getElem?_append_left (by simp; omega), hz j (by omega) b, List.getElem?_replicate]
      simp; omega
    · rw [List.getElem?_append_right (by simp; omega), List.getElem?_drop]
      congr 1
      simp; omega

/-! ### what is told is read as it was -/
theorem tell_mem {l : List Nat} (h : ∀ g ∈ l, g < 65536) : ∀ g ∈ l.map hexS, g ≠ [] ∧ ∀ c ∈ g, c ≠ 58 := by
  intro g hg
  obtain ⟨n, hn, rfl⟩ := List.mem_map.1 hg
  exact ⟨hexS_ne n, fun c hc => (hexS_mem n (h n hn) c hc).1⟩
theorem groups_back (ends : Bool) : ∀ (l all : List Nat) (k : Nat), l ≠ [] → (∀ g ∈ l, g < 65536) → l.length ≤ k → groupsV ends k all (tellGroups l) = some (all ++ l)
  | [], _, _, h, _, _ => absurd rfl h
  | [g], all, k + 1, _, hl, _ => by
    have hg := hl g (by simp)
    have hm := hexS_mem g hg
    have e : tellGroups [g] = hexS g := by unfold tellGroups; exact Lib.join_one _ _
    rw [e]
    unfold groupsV
    rw [cut1_none (fun c hc => (hm c hc).1), has_none (fun c hc => (hm c hc).2), groupV_hexS g hg]
    simp
  | g :: g2 :: l, all, k + 1, _, hl, hk => by
    have hg := hl g (by simp)
    have hm := hexS_mem g hg
    have e : tellGroups (g :: g2 :: l) = hexS g ++ 58 :: tellGroups (g2 :: l) := by
      unfold tellGroups
      simp only [List.map_cons]
      rw [Lib.join_cons, Lib.join_cons]
      simp [Lib.joinTail]
    have ih := groups_back ends (g2 :: l) (all ++ [g]) k (by simp) (fun x hx => hl x (by simp at hx ⊢; right; exact hx)) (by simp at hk ⊢; omega)
    rw [e]
    unfold groupsV
    rw [cut1_some (fun c hc => (hm c hc).1), groupV_hexS g hg]
    simp [ih]
  | [_], _, 0, _, _, hk => by simp at hk
  | _ :: _ :: _, _, 0, _, _, hk => by simp at hk
theorem tellGroups_ne {l : List Nat} (h : l ≠ []) : tellGroups l ≠ [] := by
  cases l with
  | nil => exact absurd rfl h
  | cons g l => unfold tellGroups; rw [List.map_cons, Lib.join_cons]; have := hexS_ne g; simp [this]
theorem side_back (ends : Bool) (l : List Nat) (hl : ∀ g ∈ l, g < 65536) (hk : l.length ≤ 8) : sideV ends (tellGroups l) = some l := by
  by_cases h : l = []
  · subst h; rfl
  · unfold sideV; rw [if_neg (tellGroups_ne h), groups_back ends l [] 8 h hl hk]; rfl
theorem six_back (l : List Nat) (hl : ∀ g ∈ l, g < 65536) (h8 : l.length = 8) : sixV (tellSix l) = some (joinV l) := by
  obtain ⟨a, b, c⟩ := longest_all l
  unfold tellSix
  generalize (longest 0 0 0 0 l).1 = f at *
  generalize (longest 0 0 0 0 l).2 = t at *
  split
  · unfold sixV
    have e := cut2_none (tell_mem hl)
    rw [show tellGroups l = Lib.join (l.map hexS) [58] from rfl, e]
    have g := groups_back true l [] 8 (by intro h; rw [h] at h8; cases h8) hl (by omega)
    rw [show tellGroups l = Lib.join (l.map hexS) [58] from rfl] at g
    rw [if_pos rfl, g]
    simp [h8]
  · unfold sixV
    have hf : ∀ g ∈ l.take f, g < 65536 := fun g hg => hl g (List.mem_of_mem_take hg)
    have hd : ∀ g ∈ l.drop t, g < 65536 := fun g hg => hl g (List.mem_of_mem_drop hg)
    have e := cut2_some (tellGroups (l.drop t)) (tell_mem hf)
    rw [show tellGroups (l.take f) = Lib.join ((l.take f).map hexS) [58] from rfl, e]
    have s1 := side_back false _ hf (by simp; omega)
    have s2 := side_back true _ hd (by simp; omega)
    rw [show tellGroups (l.take f) = Lib.join ((l.take f).map hexS) [58] from rfl] at s1
    rw [if_neg (by simp), s1, s2]
    have hlen : (l.take f).length + (l.drop t).length = f + (8 - t) := by simp; omega
    simp only
    rw [if_neg (by omega), show 8 - (l.take f).length - (l.drop t).length = t - f by simp; omega, mid_zero l f t a b c]
theorem four_back (n : Nat) (h : n < 4294967296) : fourV (tellFour n) = some n := by
  have e : tellFour n = decS (n / 16777216 % 256) ++ 46 :: (decS (n / 65536 % 256) ++ 46 :: (decS (n / 256 % 256) ++ 46 :: decS (n % 256))) := by
    unfold tellFour; rw [Lib.join_cons]; simp [Lib.joinTail]
  have m := fun k (hk : k < 256) c hc => (decS_mem k hk c hc).2
  rw [e]
  unfold fourV four4
  rw [cut1_some (m _ (by omega)), decV_decS _ (by omega)]
  simp only [decide_true, bne_self_eq_false, Bool.false_eq_true, if_false, Nat.zero_lt_succ]
  unfold four4
  rw [cut1_some (m _ (by omega)), decV_decS _ (by omega)]
  simp only [decide_true, bne_self_eq_false, Bool.false_eq_true, if_false, Nat.zero_lt_succ]
  unfold four4
  rw [cut1_some (m _ (by omega)), decV_decS _ (by omega)]
  simp only [decide_true, bne_self_eq_false, Bool.false_eq_true, if_false, Nat.zero_lt_succ]
  unfold four4
  rw [cut1_none (m _ (by omega)), decV_decS _ (by omega)]
  simp only [Nat.lt_irrefl, decide_false, bne_self_eq_false, Bool.false_eq_true, if_false]
  unfold four4
  congr 1
  omega
theorem tellSix_colon (l : List Nat) (h8 : l.length = 8) : 58 ∈ tellSix l := by
  unfold tellSix
  split
  · match l, h8 with
    | a :: b :: r, _ =>
      unfold tellGroups
      simp only [List.map_cons]
      rw [Lib.join_cons]
      simp [Lib.joinTail]
  · simp
theorem tellFour_plain (n : Nat) : ∀ c ∈ tellFour n, c ≠ 58 := by
  have e : tellFour n = decS (n / 16777216 % 256) ++ 46 :: (decS (n / 65536 % 256) ++ 46 :: (decS (n / 256 % 256) ++ 46 :: decS (n % 256))) := by
    unfold tellFour; rw [Lib.join_cons]; simp [Lib.joinTail]
  have m := fun k (hk : k < 256) c hc => (decS_mem k hk c hc).1
  rw [e]
  intro c hc
  simp only [List.mem_append, List.mem_cons] at hc
  rcases hc with hc | rfl | hc | rfl | hc | rfl | hc
  · exact m _ (by omega) c hc
  · decide
  · exact m _ (by omega) c hc
  · decide
  · exact m _ (by omega) c hc
  · decide
  · exact m _ (by omega) c hc
theorem okV_cases {v : Int} {x : Nat} (h : okV v x = true) : v = 6 ∨ (v = 4 ∧ x < 4294967296) := by simpa [okV] using h
theorem parse_tell (v : Int) (x : Nat) (h : okV v x = true) (hx : x < 340282366920938463463374607431768211456) : parseV (tellV v x) = some (v.toNat, x) := by
  unfold tellV
  rw [if_neg (by simp [h])]
  rcases okV_cases h with rfl | ⟨rfl, hx4⟩
  · rw [if_neg (by decide)]
    unfold parseV
    rw [if_pos (has_some (tellSix_colon _ (groupsOf_len x))), six_back _ (groupsOf_lt x) (groupsOf_len x), joinV_groupsOf x hx]
    rfl
  · rw [if_pos rfl]
    unfold parseV
    rw [has_none (tellFour_plain x), if_neg (by decide), four_back x hx4]
    rfl
theorem parseV_ok {s : Bs} {v x : Nat} (h : parseV s = some (v, x)) : okV v x = true ∧ x < 340282366920938463463374607431768211456 ∧ (v = 4 ∨ v = 6) := by
  unfold parseV at h
  split at h
  · cases hs : sixV s with
    | none => rw [hs] at h; cases h
    | some n =>
      rw [hs] at h
      simp at h
      obtain ⟨rfl, rfl⟩ := h
      exact ⟨by simp [okV], sixV_lt hs, Or.inr rfl⟩
  · cases hs : fourV s with
    | none => rw [hs] at h; cases h
    | some n =>
      rw [hs] at h
      simp at h
      obtain ⟨rfl, rfl⟩ := h
      have := fourV_lt hs
      exact ⟨by simp [okV, this], by omega, Or.inl rfl⟩
theorem join_len_le (gs : List Bs) (sep : Bs) (m : Nat) (h : ∀ g ∈ gs, g.length ≤ m) : (Lib.join gs sep).length ≤ gs.length * (m + sep.length) := by
  have ht : ∀ r : List Bs, (∀ g ∈ r, g.length ≤ m) → (Lib.joinTail sep r).length ≤ r.length * (m + sep.length) := by
    intro r
    induction r with
    | nil => intro _; simp [Lib.joinTail]
    | cons g r ih =>
      intro hr
      have := ih (fun x hx => hr x (by simp [hx]))
      have hg := hr g (by simp)
      have e : Lib.joinTail sep (g :: r) = sep ++ g ++ Lib.joinTail sep r := by simp [Lib.joinTail]
      rw [e, List.length_cons, Nat.succ_mul]
      simp
      omega
  cases gs with
  | nil => simp [Lib.join_nil]
  | cons g r =>
    have := ht r (fun x hx => h x (by simp [hx]))
    have hg := h g (by simp)
    rw [Lib.join_cons, List.length_cons, Nat.succ_mul, List.length_append]
    omega
theorem tellGroups_len (l : List Nat) : (tellGroups l).length ≤ l.length * 5 := by
  have := join_len_le (l.map hexS) [58] 4 (fun g hg => by obtain ⟨n, _, rfl⟩ := List.mem_map.1 hg; exact (hexS_len n).2)
  simpa [tellGroups] using this
theorem tellV_len (v : Int) (x : Nat) : (tellV v x).length ≤ 100 := by
  unfold tellV
  split
  · simp
  · split
    · unfold tellFour
      have := join_len_le [decS (x / 16777216 % 256), decS (x / 65536 % 256), decS (x / 256 % 256), decS (x % 256)] [46] 3 (fun g hg => by
        simp at hg; rcases hg with rfl | rfl | rfl | rfl <;> exact (decS_len _).2)
      simp at this
      omega
    · unfold tellSix
      have h8 := groupsOf_len x
      split
      · have := tellGroups_len (groupsOf x); omega
      · rename_i h
        have a := tellGroups_len ((groupsOf x).take (longest 0 0 0 0 (groupsOf x)).1)
        have b := tellGroups_len ((groupsOf x).drop (longest 0 0 0 0 (groupsOf x)).2)
        simp only [List.length_append, List.length_take, List.length_drop] at a b ⊢
        simp
        omega
end Go.Proofs.YtmnemjhkmllniaaGreatDoor

/- Prefixes as plain mathematics: an address, a number of leading bits; what is cut, first, last, over, ahead; netmasks. No program stands in this text. -/
namespace Go.Proofs.YtmnemjhkmllniaaGreatDoor

/-- How many bits an address of this V has. -/
def bitsV (v : Int) : Nat := if v = 4 then 32 else if v = 6 then 128 else 0
theorem bitsV_le (v : Int) : bitsV v ≤ 128 := by unfold bitsV; split <;> (try split) <;> omega
theorem bitsV_4 : bitsV 4 = 32 := rfl
theorem bitsV_6 : bitsV 6 = 128 := rfl
/-- The number without its lowest k bits. -/
def cutK (k x : Nat) : Nat := x / 2 ^ k * 2 ^ k
theorem cutK_le (k x : Nat) : cutK k x ≤ x := Nat.div_mul_le_self _ _
theorem cutK_lt (k x : Nat) (h : x < 340282366920938463463374607431768211456) : cutK k x < 340282366920938463463374607431768211456 := Nat.lt_of_le_of_lt (cutK_le k x) h
theorem cutK_zero (x : Nat) : cutK 0 x = x := by simp [cutK]
theorem cutK_cutK (k x : Nat) : cutK k (cutK k x) = cutK k x := by
  unfold cutK; rw [Nat.mul_div_cancel _ (Nat.pow_pos (by decide))]
theorem cutK_nought (k : Nat) : cutK k 0 = 0 := by simp [cutK]
theorem testBit_high (k : Nat) (hk : k ≤ 128) (i : Nat) : (340282366920938463463374607431768211456 - 2 ^ k).testBit i = (decide (k ≤ i) && decide (i < 128)) := by
  have e : 340282366920938463463374607431768211456 - 2 ^ k = (2 ^ (128 - k) - 1) <<< k := by
    rw [Nat.shiftLeft_eq, Nat.sub_mul, ← Nat.pow_add, Nat.sub_add_cancel hk, ← pow128, Nat.one_mul]
  rw [e, Nat.testBit_shiftLeft, Nat.testBit_two_pow_sub_one]
  by_cases h : k ≤ i
  · simp [h]; omega
  · simp [h]
theorem cutK_bit (k x i : Nat) : (cutK k x).testBit i = (decide (k ≤ i) && x.testBit i) := by
  have e : cutK k x = (x >>> k) <<< k := by rw [Nat.shiftLeft_eq, Nat.shiftRight_eq_div_pow]; rfl
  rw [e, Nat.testBit_shiftLeft, Nat.testBit_shiftRight]
  by_cases h : k ≤ i
  · simp [h, Nat.add_sub_cancel' h]
  · simp [h]
theorem and_mask (x m : Nat) (hx : x < 340282366920938463463374607431768211456) (hm : m ≤ 128) : x &&& maskQ m = cutK (128 - m) x := by
  apply Nat.eq_of_testBit_eq
  intro i
  unfold maskQ
  rw [Nat.testBit_and, testBit_high _ (by omega), cutK_bit]
  by_cases h : i < 128
  · simp [h]; exact Bool.and_comm _ _
  · have : x.testBit i = false := Nat.testBit_lt_two_pow (Nat.lt_of_lt_of_le (by rw [← pow128] at hx; exact hx) (Nat.pow_le_pow_right (by decide) (by omega)))
    simp [this]
theorem not_mask (k : Nat) (hk : k ≤ 128) : notQ (maskQ (128 - k)) = 2 ^ k - 1 := by
  have : 2 ^ k ≤ 2 ^ 128 := Nat.pow_le_pow_right (by decide) hk
  have : 0 < 2 ^ k := Nat.pow_pos (by decide)
  unfold notQ maskQ
  rw [show 128 - (128 - k) = k by omega]
  rw [pow128] at *
  omega
theorem or_low (k x : Nat) (h : cutK k x = x) : x ||| (2 ^ k - 1) = x + (2 ^ k - 1) := by
  have hp : 0 < 2 ^ k := Nat.pow_pos (by decide)
  have hx : x = 2 ^ k * (x / 2 ^ k) := by conv => lhs; rw [← h]
                                          unfold cutK; exact Nat.mul_comm _ _
  have := Nat.two_pow_add_eq_or_of_lt (b := 2 ^ k - 1) (i := k) (by omega) (x / 2 ^ k)
  rw [← hx] at this
  exact this.symm
theorem cutK_small (k x : Nat) (hk : k ≤ 32) : cutK k x < 4294967296 ↔ x < 4294967296 := by
  constructor
  · intro h
    have e : (4294967296 : Nat) = 2 ^ (32 - k) * 2 ^ k := by rw [← Nat.pow_add, Nat.sub_add_cancel hk]
    unfold cutK at h
    rw [e] at h ⊢
    have := Nat.lt_of_mul_lt_mul_right h
    exact (Nat.div_lt_iff_lt_mul (Nat.pow_pos (by decide))).1 this
  · intro h; exact Nat.lt_of_le_of_lt (cutK_le k x) h
/-- Cut to a multiple: between it and just below the next. -/
theorem cutK_is (k x y : Nat) (h : cutK k x = x) : cutK k y = x ↔ x ≤ y ∧ y ≤ x + (2 ^ k - 1) := by
  have hp : 0 < 2 ^ k := Nat.pow_pos (by decide)
  have hd := Nat.div_add_mod y (2 ^ k)
  have hm := Nat.mod_lt y hp
  have hc : cutK k y + y % 2 ^ k = y := by unfold cutK; rw [Nat.mul_comm]; exact hd
  constructor
  · intro e; subst e; omega
  · intro ⟨h1, h2⟩
    have hq : x = x / 2 ^ k * 2 ^ k := h.symm
    have : y / 2 ^ k = x / 2 ^ k := by
      apply Nat.div_eq_of_lt_le
      · rw [← hq]; exact h1
      · rw [Nat.succ_mul, ← hq]; omega
    unfold cutK; rw [this]; exact hq.symm
theorem cutK_add (k x : Nat) (h : cutK k x = x) : cutK k (x + (2 ^ k - 1)) = x := (cutK_is k x _ h).2 ⟨Nat.le_add_right _ _, Nat.le_refl _⟩
/-- How many bits stand behind the first n. -/
def hostK (v n : Int) : Nat := bitsV v - n.toNat
theorem hostK_le (v n : Int) : hostK v n ≤ 128 := by have := bitsV_le v; unfold hostK; omega
def okP (v : Int) (x : Nat) (n : Int) : Bool := okV v x && (decide (0 ≤ n ∧ n ≤ bitsV v) && decide (cutK (hostK v n) x = x))
theorem okP_is {v : Int} {x : Nat} {n : Int} (h : okP v x n = true) : okV v x = true ∧ 0 ≤ n ∧ n ≤ bitsV v ∧ cutK (hostK v n) x = x := by
  simp [okP] at h; exact ⟨h.1, h.2.1.1, h.2.1.2, h.2.2⟩
theorem okP_of {v : Int} {x : Nat} {n : Int} (h : okV v x = true) (h0 : 0 ≤ n) (h1 : n ≤ bitsV v) (h2 : cutK (hostK v n) x = x) : okP v x n = true := by
  simp [okP]; exact ⟨h, ⟨h0, h1⟩, h2⟩
theorem okP_lt {v : Int} {x : Nat} {n : Int} (h : okP v x n = true) : n ≤ 128 := by have := (okP_is h).2.2.1; have := bitsV_le v; omega
theorem okV_lt {v : Int} {x : Nat} (h : okV v x = true) (hx : x < 340282366920938463463374607431768211456) : x < 2 ^ bitsV v := by
  rcases okV_cases h with rfl | ⟨rfl, h4⟩
  · rw [bitsV_6, pow128]; exact hx
  · exact h4
/-- The last address of a prefix is one of the same V. -/
theorem last_ok {v : Int} {x : Nat} {n : Int} (h : okP v x n = true) (hx : x < 340282366920938463463374607431768211456) : x + (2 ^ hostK v n - 1) < 2 ^ bitsV v := by
  obtain ⟨h1, h2, h3, h4⟩ := okP_is h
  have hl := okV_lt h1 hx
  generalize hk : hostK v n = k at *
  have hkb : k ≤ bitsV v := by rw [← hk]; unfold hostK; omega
  have e : 2 ^ bitsV v = 2 ^ (bitsV v - k) * 2 ^ k := by rw [← Nat.pow_add, Nat.sub_add_cancel hkb]
  have hp : 0 < 2 ^ k := Nat.pow_pos (by decide)
  unfold cutK at h4
  rw [e] at hl ⊢
  have hq : x / 2 ^ k < 2 ^ (bitsV v - k) := (Nat.div_lt_iff_lt_mul hp).2 hl
  have : (x / 2 ^ k + 1) * 2 ^ k ≤ 2 ^ (bitsV v - k) * 2 ^ k := Nat.mul_le_mul_right _ hq
  rw [Nat.succ_mul, h4] at this
  omega
theorem pow_bits_le (v : Int) : 2 ^ bitsV v ≤ 340282366920938463463374607431768211456 := by
  rw [← pow128]; exact Nat.pow_le_pow_right (by decide) (bitsV_le v)
theorem okV_of {v : Int} {x : Nat} (h : v = 4 ∨ v = 6) (hx : x < 2 ^ bitsV v) : okV v x = true := by
  rcases h with rfl | rfl
  · have : x < 4294967296 := hx
    simp [okV, this]
  · simp [okV]
theorem okV_v {v : Int} {x : Nat} (h : okV v x = true) : v = 4 ∨ v = 6 := by rcases okV_cases h with h | h; exact Or.inr h; exact Or.inl h.1
def firstV (v : Int) (x : Nat) (n : Int) : Int := if okP v x n = true then v else 0
def firstX (v : Int) (x : Nat) (n : Int) : Nat := if okP v x n = true then x else 0
def lastX (v : Int) (x : Nat) (n : Int) : Nat := if okP v x n = true then x + (2 ^ hostK v n - 1) else 0
def hasP (v : Int) (x : Nat) (n : Int) (u : Int) (y : Nat) : Bool := okP v x n && (okV u y && (decide (u = v) && decide (cutK (hostK u n) y = x)))
def overP (v : Int) (x : Nat) (n : Int) (u : Int) (y : Nat) (m : Int) : Bool := hasP v x n (firstV u y m) (firstX u y m) || hasP u y m (firstV v x n) (firstX v x n)
def lessP (v : Int) (x : Nat) (n : Int) (u : Int) (y : Nat) (m : Int) : Bool := okP v x n && (okP u y m && (if v = u ∧ x = y then decide (n < m) else ltP v x u y))
where ltP (v : Int) (x : Nat) (u : Int) (y : Nat) : Bool := if v = u then ltB x y else decide (v < u)
theorem lastX_lt (v : Int) (x : Nat) (n : Int) (hx : x < 340282366920938463463374607431768211456) : lastX v x n < 340282366920938463463374607431768211456 := by
  unfold lastX; split
  · rename_i h; exact Nat.lt_of_lt_of_le (last_ok h hx) (pow_bits_le v)
  · decide
theorem firstX_lt (v : Int) (x : Nat) (n : Int) (hx : x < 340282366920938463463374607431768211456) : firstX v x n < 340282366920938463463374607431768211456 := by
  unfold firstX; split
  · exact hx
  · decide
/-- Netmasks. -/
def nmX (n : Int) : Nat := 4294967296 - 2 ^ (32 - n.toNat)
def nmB (v : Int) (x : Nat) (n : Int) : Bool := okP v x n && decide (v = 4)
theorem nmX_cut (n : Int) : cutK (32 - n.toNat) 4294967295 = nmX n := by
  have hp : 0 < 2 ^ (32 - n.toNat) := Nat.pow_pos (by decide)
  have e : (4294967296 : Nat) = 2 ^ (32 - (32 - n.toNat)) * 2 ^ (32 - n.toNat) := by rw [← Nat.pow_add, Nat.sub_add_cancel (by omega)]
  have h1 : 1 ≤ 2 ^ (32 - (32 - n.toNat)) := Nat.pow_pos (by decide)
  have hs : (2 ^ (32 - (32 - n.toNat)) - 1) * 2 ^ (32 - n.toNat) = nmX n := by rw [Nat.sub_mul, Nat.one_mul, ← e]; rfl
  refine (cutK_is _ _ _ ?_).2 ⟨?_, ?_⟩ |>.trans rfl
  · rw [← hs]; unfold cutK; rw [Nat.mul_div_cancel _ hp]
  · unfold nmX; omega
  · unfold nmX
    have : 2 ^ (32 - n.toNat) ≤ 2 ^ 32 := Nat.pow_le_pow_right (by decide) (by omega)
    omega
theorem nmX_lt (n : Int) : nmX n < 4294967296 := by
  have hp : 0 < 2 ^ (32 - n.toNat) := Nat.pow_pos (by decide)
  unfold nmX; omega
def ofN (y : Nat) : Nat := 32 - min (lowQ y) 32
theorem ofN_le (y : Nat) : ofN y ≤ 32 := by unfold ofN; omega
def ofB (v : Int) (x : Nat) (u : Int) (y : Nat) : Bool := decide (v = 4 ∧ x < 4294967296 ∧ u = 4 ∧ y = nmX (ofN y))
/-- A mask tells how many bits it has. -/
theorem ofN_nmX : ∀ n : Nat, n ≤ 32 → ofN (nmX n) = n := by decide +kernel
end Go.Proofs.YtmnemjhkmllniaaGreatDoor

/- Ranges as plain mathematics: the greatest piece from an address on that does not go beyond another, and the row of such pieces. No program stands in this text. -/
namespace Go.Proofs.YtmnemjhkmllniaaGreatDoor

theorem two_pos (k : Nat) : 0 < 2 ^ k := Nat.pow_pos (by decide)
theorem pow_le {a b : Nat} (h : a ≤ b) : 2 ^ a ≤ 2 ^ b := Nat.pow_le_pow_right (by decide) h
theorem pow_dvd {a b : Nat} (h : a ≤ b) : 2 ^ a ∣ 2 ^ b := Nat.pow_dvd_pow 2 h
theorem cutK_dvd {k x : Nat} : cutK k x = x ↔ 2 ^ k ∣ x := by
  unfold cutK
  constructor
  · intro h; exact ⟨x / 2 ^ k, by rw [Nat.mul_comm]; exact h.symm⟩
  · intro h; exact Nat.div_mul_cancel h
/-- A piece of 2^k from lo on, that is a prefix and does not go beyond hi. -/
def fits (lo hi k : Nat) : Prop := 2 ^ k ∣ lo ∧ lo + 2 ^ k ≤ hi + 1
instance (lo hi k : Nat) : Decidable (fits lo hi k) := inferInstanceAs (Decidable (_ ∧ _))
theorem fits_less {lo hi k j : Nat} (h : fits lo hi k) (hj : j ≤ k) : fits lo hi j := ⟨Nat.dvd_trans (pow_dvd hj) h.1, Nat.le_trans (Nat.add_le_add_left (pow_le hj) _) h.2⟩
theorem fits_zero {lo hi : Nat} (h : lo ≤ hi) : fits lo hi 0 := ⟨Nat.one_dvd _, by simp; exact h⟩
def fitK (lo hi : Nat) : Nat → Nat
  | 0 => 0
  | k + 1 => if fits lo hi (k + 1) then k + 1 else fitK lo hi k
theorem fitK_le (lo hi : Nat) : ∀ m, fitK lo hi m ≤ m
  | 0 => Nat.le_refl _
  | k + 1 => by unfold fitK; split; exact Nat.le_refl _; exact Nat.le_succ_of_le (fitK_le lo hi k)
theorem fitK_fits {lo hi : Nat} (h : lo ≤ hi) : ∀ m, fits lo hi (fitK lo hi m)
  | 0 => fits_zero h
  | k + 1 => by unfold fitK; split; assumption; exact fitK_fits h k
theorem fitK_max {lo hi : Nat} : ∀ m j, j ≤ m → fits lo hi j → j ≤ fitK lo hi m
  | 0, j, hj, _ => hj
  | k + 1, j, hj, h => by
    unfold fitK
    split
    · exact hj
    · rename_i hn
      by_cases e : j = k + 1
      · subst e; exact absurd h hn
      · exact fitK_max k j (by omega) h
def widK (lo hi : Nat) : Nat := fitK lo hi 128
theorem widK_le (lo hi : Nat) : widK lo hi ≤ 128 := fitK_le lo hi 128
theorem widK_fits {lo hi : Nat} (h : lo ≤ hi) : fits lo hi (widK lo hi) := fitK_fits h 128
theorem widK_max {lo hi j : Nat} (hj : j ≤ 128) (h : fits lo hi j) : j ≤ widK lo hi := fitK_max 128 j hj h
theorem widK_is {lo hi k : Nat} (hk : k ≤ 128) (h : fits lo hi k) (hn : ∀ j, j ≤ 128 → k < j → ¬ fits lo hi j) : widK lo hi = k := by
  have h1 := widK_max hk h
  have hl : lo ≤ hi := by have := h.2; have := two_pos k; omega
  by_cases e : k < widK lo hi
  · exact absurd (widK_fits hl) (hn _ (widK_le _ _) e)
  · omega
/-- The pieces, each the greatest. -/
def coverX (lo hi : Nat) : List (Nat × Nat) := if lo ≤ hi then (lo, widK lo hi) :: coverX (lo + 2 ^ widK lo hi) hi else []
termination_by hi + 1 - lo
decreasing_by have := two_pos (widK lo hi); omega
theorem coverX_no {lo hi : Nat} (h : hi < lo) : coverX lo hi = [] := by rw [coverX, if_neg (by omega)]
theorem coverX_yes {lo hi : Nat} (h : lo ≤ hi) : coverX lo hi = (lo, widK lo hi) :: coverX (lo + 2 ^ widK lo hi) hi := by rw [coverX, if_pos h]
def coverF (hi : Nat) : Nat → Nat → Option (List (Nat × Nat))
  | 0, lo => if lo ≤ hi then none else some []
  | f + 1, lo => if lo ≤ hi then (coverF hi f (lo + 2 ^ widK lo hi)).map ((lo, widK lo hi) :: ·) else some []
theorem coverX_F (hi : Nat) : ∀ (f lo : Nat) (l : List (Nat × Nat)), coverF hi f lo = some l → coverX lo hi = l
  | 0, lo, l, h => by
    unfold coverF at h
    split at h
    · cases h
    · rw [coverX_no (by omega)]; injection h
  | f + 1, lo, l, h => by
    unfold coverF at h
    split at h
    · rename_i hl
      cases hc : coverF hi f (lo + 2 ^ widK lo hi) with
      | none => rw [hc] at h; cases h
      | some r => rw [hc] at h; simp at h; rw [coverX_yes hl, coverX_F hi f _ r hc, h]
    · rw [coverX_no (by omega)]; injection h
theorem cover_ind {hi : Nat} {P : Nat → List (Nat × Nat) → Prop} (h0 : ∀ lo, hi < lo → P lo []) (h1 : ∀ lo, lo ≤ hi → P (lo + 2 ^ widK lo hi) (coverX (lo + 2 ^ widK lo hi) hi) → P lo ((lo, widK lo hi) :: coverX (lo + 2 ^ widK lo hi) hi)) : ∀ (n lo : Nat), hi + 1 - lo ≤ n → P lo (coverX lo hi)
  | 0, lo, hn => by rw [coverX_no (by omega)]; exact h0 lo (by omega)
  | n + 1, lo, hn => by
    by_cases hl : lo ≤ hi
    · rw [coverX_yes hl]; exact h1 lo hl (cover_ind h0 h1 n _ (by have := two_pos (widK lo hi); omega))
    · rw [coverX_no (by omega)]; exact h0 lo (by omega)
theorem cover_in {hi : Nat} (lo : Nat) : ∀ p ∈ coverX lo hi, lo ≤ p.1 ∧ p.1 + 2 ^ p.2 ≤ hi + 1 ∧ 2 ^ p.2 ∣ p.1 ∧ p.2 ≤ 128 := by
  refine cover_ind (hi := hi) (P := fun lo l => ∀ p ∈ l, lo ≤ p.1 ∧ p.1 + 2 ^ p.2 ≤ hi + 1 ∧ 2 ^ p.2 ∣ p.1 ∧ p.2 ≤ 128) ?_ ?_ _ lo (Nat.le_refl _)
  · intro lo _ p hp; cases hp
  · intro lo hl ih p hp
    rcases List.mem_cons.1 hp with rfl | hp
    · have := widK_fits hl; exact ⟨Nat.le_refl _, this.2, this.1, widK_le _ _⟩
    · have h := ih p hp; have := two_pos (widK lo hi); exact ⟨by omega, h.2⟩
theorem cover_last {hi lo : Nat} (hl : lo ≤ hi) : ∃ r a k, coverX lo hi = r ++ [(a, k)] ∧ a + 2 ^ k = hi + 1 := by
  have := cover_ind (hi := hi) (P := fun lo l => lo ≤ hi → ∃ r a k, l = r ++ [(a, k)] ∧ a + 2 ^ k = hi + 1) (fun lo h h' => by omega) ?_ _ lo (Nat.le_refl _)
  · exact this hl
  · intro lo hl ih _
    by_cases hn : lo + 2 ^ widK lo hi ≤ hi
    · obtain ⟨r, a, k, h1, h2⟩ := ih hn
      exact ⟨(lo, widK lo hi) :: r, a, k, by rw [h1]; rfl, h2⟩
    · rw [coverX_no (by omega)]
      exact ⟨[], lo, widK lo hi, rfl, by have := (widK_fits hl).2; omega⟩
/-- Two beside each other. -/
def Beside (hi : Nat) : List (Nat × Nat) → Prop
  | p :: q :: r => (q.1 = p.1 + 2 ^ p.2 ∧ (q.2 = p.2 → ¬ 2 ^ (p.2 + 1) ∣ p.1)) ∧ Beside hi (q :: r)
  | _ => True
theorem cover_beside {hi : Nat} (hh : hi < 340282366920938463463374607431768211456) (lo : Nat) : Beside hi (coverX lo hi) := by
  refine cover_ind (hi := hi) (P := fun _ l => Beside hi l) (fun lo _ => trivial) ?_ _ lo (Nat.le_refl _)
  intro lo hl ih
  by_cases hn : lo + 2 ^ widK lo hi ≤ hi
  · rw [coverX_yes hn] at ih ⊢
    refine ⟨⟨rfl, fun e hd => ?_⟩, ih⟩
    simp only at e hd
    have h2 := (widK_fits hn).2
    rw [e] at h2
    have hp : 2 ^ (widK lo hi + 1) = 2 ^ widK lo hi + 2 ^ widK lo hi := by rw [Nat.pow_succ]; omega
    by_cases h128 : widK lo hi + 1 ≤ 128
    · have := widK_max h128 (⟨hd, by omega⟩ : fits lo hi (widK lo hi + 1)); omega
    · have h0 : widK lo hi = 128 := by have := widK_le lo hi; omega
      rw [h0, pow128] at hn; omega
  · rw [coverX_no (by omega)]; trivial
theorem beside_at {hi : Nat} : ∀ (l : List (Nat × Nat)) (i : Nat) (p q : Nat × Nat), Beside hi l → l[i]? = some p → l[i + 1]? = some q → q.1 = p.1 + 2 ^ p.2 ∧ (q.2 = p.2 → ¬ 2 ^ (p.2 + 1) ∣ p.1)
  | [], i, p, q, _, h, _ => by simp at h
  | [a], i, p, q, _, _, h => by simp at h
  | a :: b :: r, 0, p, q, hb, h1, h2 => by simp at h1 h2; subst h1 h2; exact hb.1
  | a :: b :: r, i + 1, p, q, hb, h1, h2 => beside_at (b :: r) i p q hb.2 (by simpa using h1) (by simpa using h2)
/-! ### how many -/
theorem log_of (n : Nat) (h : 0 < n) : ∃ j, 2 ^ j ≤ n ∧ n < 2 ^ (j + 1) := ⟨Nat.log2 n, Nat.log2_self_le (by omega), Nat.lt_log2_self⟩
theorem pow_lt_iff {a b : Nat} (h : 2 ^ a < 2 ^ b) : a < b := by
  by_cases e : a < b
  · exact e
  · have := pow_le (show b ≤ a by omega); omega
theorem cover_fall {hi : Nat} : ∀ (n k lo : Nat), k ≤ 129 → hi + 1 - lo ≤ n → hi + 1 - lo < 2 ^ k → 2 ^ k ∣ lo → (coverX lo hi).length ≤ k
  | 0, k, lo, _, hn, _, _ => by rw [coverX_no (by omega)]; simp
  | n + 1, k, lo, hk, hn, h, hd => by
    by_cases hl : lo ≤ hi
    · obtain ⟨j, h1, h2⟩ := log_of (hi + 1 - lo) (by omega)
      have hjk : j < k := pow_lt_iff (Nat.lt_of_le_of_lt h1 h)
      have hw : widK lo hi = j := by
        refine widK_is (by omega) ⟨Nat.dvd_trans (pow_dvd (by omega)) hd, by omega⟩ (fun i _ hi' hf => ?_)
        have := hf.2; have := pow_le (show j + 1 ≤ i by omega); omega
      have hpj := two_pos j
      have hs : 2 ^ (j + 1) = 2 ^ j + 2 ^ j := by rw [Nat.pow_succ]; omega
      rw [coverX_yes hl, hw, List.length_cons]
      have := cover_fall (hi := hi) n j (lo + 2 ^ j) (by omega) (by omega) (by omega) (Nat.dvd_add (Nat.dvd_trans (pow_dvd (by omega)) hd) (Nat.dvd_refl _))
      omega
    · rw [coverX_no (by omega)]; simp
theorem dvd_next {k a : Nat} (h : 2 ^ k ∣ a) (hn : ¬ 2 ^ (k + 1) ∣ a) : 2 ^ (k + 1) ∣ a + 2 ^ k := by
  obtain ⟨c, rfl⟩ := h
  have hodd : c % 2 = 1 := by
    by_cases e : c % 2 = 1
    · exact e
    · exfalso; apply hn
      refine ⟨c / 2, ?_⟩
      rw [Nat.pow_succ, Nat.mul_assoc]
      congr 1; omega
  refine ⟨(c + 1) / 2, ?_⟩
  rw [Nat.pow_succ, Nat.mul_assoc, ← Nat.mul_succ]
  congr 1; omega
theorem cover_rise {hi m : Nat} (hm : m ≤ 129) (hh : hi < 340282366920938463463374607431768211456) : ∀ (d t lo : Nat), m - t ≤ d → t ≤ m → hi + 1 - lo < 2 ^ m → 2 ^ t ∣ lo → (coverX lo hi).length ≤ (m - t) + m
  | d, t, lo, hd, ht, h, hv => by
    by_cases hl : lo ≤ hi
    · have hf := widK_fits hl
      have hk := widK_le lo hi
      have hmx := @widK_max lo hi
      rw [coverX_yes hl, List.length_cons]
      generalize widK lo hi = k at *
      have hpk := two_pos k
      have hs : 2 ^ (k + 1) = 2 ^ k + 2 ^ k := by rw [Nat.pow_succ]; omega
      have hkm : k < m := pow_lt_iff (by have := hf.2; omega)
      by_cases hlong : lo + 2 ^ (k + 1) ≤ hi + 1
      · have hk1 : k + 1 ≤ 128 := by
          by_cases e : k + 1 ≤ 128
          · exact e
          · have h0 : k = 128 := by omega
            subst h0; rw [pow128] at hs hpk; omega
        have hnd : ¬ 2 ^ (k + 1) ∣ lo := fun hdv => by have := hmx hk1 ⟨hdv, hlong⟩; omega
        have htk : t ≤ k := by
          by_cases e : t ≤ k
          · exact e
          · exact absurd (Nat.dvd_trans (pow_dvd (show k + 1 ≤ t by omega)) hv) hnd
        match d, hd with
        | 0, hd => omega
        | d + 1, hd =>
          have := cover_rise hm hh d (k + 1) (lo + 2 ^ k) (by omega) (by omega) (by omega) (dvd_next hf.1 hnd)
          omega
      · have := cover_fall (hi := hi) _ k (lo + 2 ^ k) (by omega) (Nat.le_refl _) (by omega) (Nat.dvd_add hf.1 (Nat.dvd_refl _))
        omega
    · rw [coverX_no (by omega)]; simp
theorem cover_count {hi : Nat} (hh : hi < 340282366920938463463374607431768211456) (lo : Nat) : (coverX lo hi).length ≤ 258 := by
  have := cover_rise (m := 129) (Nat.le_refl _) hh 129 0 lo (by omega) (by omega) (by rw [show (2 : Nat) ^ 129 = 2 ^ 128 * 2 by rw [Nat.pow_succ], pow128]; omega) (Nat.one_dvd _)
  omega
theorem cover_narrow {lo hi : Nat} (hh : hi < 340282366920938463463374607431768211456) (h : hi ≤ lo + 18446744073709551615) : (coverX lo hi).length ≤ 130 := by
  have := cover_rise (m := 65) (by omega) hh 65 0 lo (by omega) (by omega) (by rw [show (2 : Nat) ^ 65 = 2 ^ 64 * 2 by rw [Nat.pow_succ], pow64]; omega) (Nat.one_dvd _)
  omega
/-! ### how many addresses -/
def sizes : List (Nat × Nat) → Nat
  | [] => 0
  | p :: r => 2 ^ p.2 + sizes r
theorem cover_sizes {hi lo : Nat} (h : lo ≤ hi + 1) : sizes (coverX lo hi) = hi + 1 - lo := by
  have := cover_ind (hi := hi) (P := fun lo l => lo ≤ hi + 1 → sizes l = hi + 1 - lo) (fun lo h h' => by simp [sizes]; omega) (fun lo hl ih _ => ?_) _ lo (Nat.le_refl _)
  · exact this h
  · have hf := (widK_fits hl).2
    have := ih (by omega)
    simp only [sizes]; omega
theorem sizes_append : ∀ (a b : List (Nat × Nat)), sizes (a ++ b) = sizes a + sizes b
  | [], b => by simp [sizes]
  | p :: a, b => by rw [List.cons_append]; simp only [sizes]; rw [sizes_append a b]; omega
theorem cover_one {x k : Nat} (hk : k ≤ 128) (h : 2 ^ k ∣ x) : coverX x (x + (2 ^ k - 1)) = [(x, k)] := by
  have hp := two_pos k
  have hw : widK x (x + (2 ^ k - 1)) = k := by
    refine widK_is hk ⟨h, by omega⟩ (fun j _ hj hf => ?_)
    have h1 := hf.2; have h2 := pow_le (show k + 1 ≤ j by omega)
    rw [Nat.pow_succ] at h2; omega
  rw [coverX_yes (by omega), hw, coverX_no (by omega)]
end Go.Proofs.YtmnemjhkmllniaaGreatDoor

/- Texts of prefixes as plain mathematics: how they are read and told, and that what is told is read as it was. No program stands in this text. -/
namespace Go.Proofs.YtmnemjhkmllniaaGreatDoor

/-- A text has a byte, first here; or it has it nowhere. -/
theorem first_of (k : UInt8) : ∀ s : Bs, (∃ p r, s = p ++ k :: r ∧ ∀ c ∈ p, c ≠ k) ∨ (∀ c ∈ s, c ≠ k)
  | [] => Or.inr (by simp)
  | b :: s => by
    by_cases hb : b = k
    · exact Or.inl ⟨[], s, by simp [hb], by simp⟩
    · rcases first_of k s with ⟨p, r, rfl, hp⟩ | h
      · exact Or.inl ⟨b :: p, r, rfl, fun c hc => by rcases List.mem_cons.1 hc with rfl | e; exact hb; exact hp c e⟩
      · exact Or.inr fun c hc => by rcases List.mem_cons.1 hc with rfl | e; exact hb; exact h c e
theorem cut1_cases (k : UInt8) (s : Bs) : (s = (Lib.cut s [k]).1 ++ k :: (Lib.cut s [k]).2.1 ∧ (Lib.cut s [k]).2.2 = true ∧ ∀ c ∈ (Lib.cut s [k]).1, c ≠ k) ∨ (Lib.cut s [k] = (s, [], false) ∧ ∀ c ∈ s, c ≠ k) := by
  rcases first_of k s with ⟨p, r, rfl, hp⟩ | h
  · left; rw [cut1_some hp]; exact ⟨rfl, rfl, hp⟩
  · right; exact ⟨cut1_none h, h⟩
theorem cut2_cases (s : Bs) : (s = (Lib.cut s [58, 58]).1 ++ ([58, 58] ++ (Lib.cut s [58, 58]).2.1) ∧ (Lib.cut s [58, 58]).2.2 = true) ∨ (Lib.cut s [58, 58] = (s, [], false)) := by
  rcases Lib.index_spec s [58, 58] with ⟨h, _⟩ | ⟨i, h, _, ho, _⟩
  · right; unfold Lib.cut; rw [h, if_neg (by decide)]
  · left
    unfold Lib.cut
    rw [h, if_pos (by omega), Int.toNat_natCast]
    refine ⟨?_, rfl⟩
    unfold Lib.occAt at ho
    obtain ⟨t, ht⟩ := List.isPrefixOf_iff_prefix.1 ho
    simp only [List.length_cons, List.length_nil]
    rw [← List.drop_drop, ← ht, List.drop_left' (by rfl), ht, List.take_append_drop]
/-- What a group, a number, an address may not hold. -/
def Plain (s : Bs) : Prop := ∀ c ∈ s, c ≠ 47
theorem hexM_plain : ∀ (l : Bs) (acc n : Nat), hexM acc l = some n → Plain l
  | [], _, _, _ => by intro c hc; cases hc
  | c :: r, acc, n, h => by
    unfold hexM at h
    cases hd : hexD c with
    | none => rw [hd] at h; cases h
    | some d =>
      rw [hd] at h
      have ih := hexM_plain r _ n h
      intro b hb
      rcases List.mem_cons.1 hb with rfl | e
      · rintro rfl; rw [show hexD 47 = none by decide] at hd; cases hd
      · exact ih b e
theorem groupV_plain {l : Bs} {n : Nat} (h : groupV l = some n) : Plain l := by
  unfold groupV at h; split at h
  · cases h
  · exact hexM_plain l 0 n h
theorem parseUintM_digits : ∀ (l : Bs) (M acc u : Nat), Lib.parseUintM M acc l = .ok u → ∀ c ∈ l, 48 ≤ c.toNat ∧ c.toNat ≤ 57
  | [], _, _, _, _ => by intro c hc; cases hc
  | c :: r, M, acc, u, h => by
    unfold Lib.parseUintM at h
    split at h
    · rename_i hc
      split at h
      · cases h
      · split at h
        · cases h
        · have ih := parseUintM_digits r M _ u h
          intro b hb
          rcases List.mem_cons.1 hb with rfl | e
          · exact hc
          · exact ih b e
    · cases h
theorem parseUintB_digits {B : Nat} {l : Bs} {u : Nat} (h : Lib.parseUintB B l = .ok u) : ∀ c ∈ l, 48 ≤ c.toNat ∧ c.toNat ≤ 57 := by
  unfold Lib.parseUintB at h; split at h
  · cases h
  · exact parseUintM_digits l _ _ u h
theorem digit_ne {c k : UInt8} (h : 48 ≤ c.toNat ∧ c.toNat ≤ 57) (hk : k.toNat < 48 ∨ 57 < k.toNat) : c ≠ k := by rintro rfl; omega
theorem decV_digits {l : Bs} {n : Nat} (h : decV l = some n) : ∀ c ∈ l, 48 ≤ c.toNat ∧ c.toNat ≤ 57 := by
  unfold decV at h; split at h
  · cases h
  · split at h
    · rename_i u hu; exact parseUintB_digits hu
    · cases h
theorem four4_plain : ∀ (k acc : Nat) (s : Bs) (n : Nat) (z : UInt8), z.toNat < 46 ∨ z.toNat = 47 ∨ 57 < z.toNat → four4 (k + 1) acc s = some n → ∀ c ∈ s, c ≠ z
  | k, acc, s, n, z, hz, h => by
    unfold four4 at h
    cases hd : decV (Lib.cut s [46]).1 with
    | none => rw [hd] at h; cases h
    | some d =>
      rw [hd] at h
      have hp := decV_digits hd
      simp only at h
      split at h
      · cases h
      · rename_i hm
        rcases cut1_cases 46 s with ⟨e, hf, _⟩ | ⟨e, _⟩
        · rw [hf] at hm
          match k, hm, h with
          | 0, hm, _ => simp at hm
          | k + 1, _, h =>
            have ih := four4_plain k _ _ n z hz h
            intro c hc
            rw [e, List.mem_append, List.mem_cons] at hc
            rcases hc with hc | rfl | hc
            · exact digit_ne (hp c hc) (by omega)
            · rintro rfl; simp at hz
            · exact ih c hc
        · rw [e] at hp
          intro c hc
          exact digit_ne (hp c hc) (by omega)
theorem fourV_plain {s : Bs} {n : Nat} (h : fourV s = some n) (z : UInt8) (hz : z.toNat < 46 ∨ z.toNat = 47 ∨ 57 < z.toNat) : ∀ c ∈ s, c ≠ z := four4_plain 3 0 s n z hz h
theorem groupsV_plain (ends : Bool) : ∀ (k : Nat) (all : List Nat) (s : Bs) (l : List Nat), groupsV ends k all s = some l → Plain s
  | 0, _, _, _, h => by cases h
  | k + 1, all, s, l, h => by
    unfold groupsV at h
    split at h
    · rename_i hc
      cases hf : fourV (Lib.cut s [58]).1 with
      | none => rw [hf] at h; cases h
      | some v =>
        have hp := fourV_plain hf 47 (by decide)
        rcases cut1_cases 58 s with ⟨_, hq, _⟩ | ⟨e, _⟩
        · rw [hq] at hc; simp at hc
        · rw [e] at hp; exact hp
    · cases hf : groupV (Lib.cut s [58]).1 with
      | none => rw [hf] at h; cases h
      | some v =>
        rw [hf] at h
        have hp := groupV_plain hf
        simp only at h
        rcases cut1_cases 58 s with ⟨e, hq, _⟩ | ⟨e, _⟩
        · rw [hq, if_pos rfl] at h
          have ih := groupsV_plain ends k _ _ l h
          intro c hc
          rw [e, List.mem_append, List.mem_cons] at hc
          rcases hc with hc | rfl | hc
          · exact hp c hc
          · decide
          · exact ih c hc
        · rw [e] at hp; exact hp
theorem sideV_plain {ends : Bool} {s : Bs} {l : List Nat} (h : sideV ends s = some l) : Plain s := by
  unfold sideV at h; split at h
  · rename_i e; subst e; intro c hc; cases hc
  · exact groupsV_plain ends 8 [] s l h
theorem sixV_plain {s : Bs} {n : Nat} (h : sixV s = some n) : Plain s := by
  unfold sixV at h
  split at h
  · cases hg : groupsV true 8 [] s with
    | none => rw [hg] at h; cases h
    | some l => exact groupsV_plain true 8 [] s l hg
  · rename_i hf
    split at h
    · rename_i f b h1 h2
      rcases cut2_cases s with ⟨e, _⟩ | e
      · have p1 := sideV_plain h1
        have p2 := sideV_plain h2
        intro c hc
        rw [e] at hc
        simp only [List.mem_append, List.mem_cons, List.not_mem_nil, or_false] at hc
        rcases hc with hc | (rfl | rfl) | hc
        · exact p1 c hc
        · decide
        · decide
        · exact p2 c hc
      · rw [e] at hf; exact absurd rfl hf
    · cases h
theorem parseV_plain {s : Bs} {a : Nat × Nat} (h : parseV s = some a) : Plain s := by
  unfold parseV at h
  split at h
  · cases hs : sixV s with
    | none => rw [hs] at h; cases h
    | some n => exact sixV_plain hs
  · cases hs : fourV s with
    | none => rw [hs] at h; cases h
    | some n => exact fourV_plain hs 47 (by decide)
/-- A number of leading bits. -/
def lenV (l : Bs) : Option Nat := if 1 < l.length ∧ l.head? = some 48 then none else match Lib.parseUintB 8 l with
  | .ok u => some u
  | _ => none
def prefM (a : Option (Nat × Nat)) (l : Option Nat) : Option (Nat × Nat × Nat) := match a, l with
  | some (v, x), some n => if okP v x n = true then some (v, x, n) else none
  | _, _ => none
def prefV (s : Bs) : Option (Nat × Nat × Nat) := prefM (parseV (Lib.cut s [47]).1) (lenV (Lib.cut s [47]).2.1)
def tellP (v : Int) (x : Nat) (n : Int) : Bs := if okP v x n = true then tellV v x ++ 47 :: decS n.toNat else []
theorem lenV_decS : ∀ n, n < 129 → lenV (decS n) = some n := by decide +kernel
theorem prefV_ok {s : Bs} {v x n : Nat} (h : prefV s = some (v, x, n)) : okP v x n = true ∧ x < 340282366920938463463374607431768211456 := by
  unfold prefV prefM at h
  split at h
  · rename_i v' x' n' h1 h2
    split at h
    · rename_i hk
      cases h
      exact ⟨hk, (parseV_ok h1).2.1⟩
    · cases h
  · cases h
theorem tellV_plain (v : Int) (x : Nat) (h : okV v x = true) (hx : x < 340282366920938463463374607431768211456) : Plain (tellV v x) := parseV_plain (parse_tell v x h hx)
theorem pref_tell (v : Int) (x : Nat) (n : Int) (h : okP v x n = true) (hx : x < 340282366920938463463374607431768211456) : prefV (tellP v x n) = some (v.toNat, x, n.toNat) := by
  obtain ⟨h1, h2, h3, h4⟩ := okP_is h
  have hn := okP_lt h
  unfold tellP
  rw [if_pos h]
  unfold prefV prefM
  rw [cut1_some (tellV_plain v x h1 hx)]
  simp only
  rw [parse_tell v x h1 hx, lenV_decS _ (by omega)]
  simp only
  have hv : ((v.toNat : Nat) : Int) = v := by rcases okV_v h1 with rfl | rfl <;> rfl
  have hnn : ((n.toNat : Nat) : Int) = n := by omega
  rw [hv, hnn, if_pos h]
theorem tellP_len (v : Int) (x : Nat) (n : Int) : (tellP v x n).length ≤ 104 := by
  unfold tellP; split
  · have := tellV_len v x; have := (decS_len n.toNat).2; simp; omega
  · simp
end Go.Proofs.YtmnemjhkmllniaaGreatDoor

/- How the checker reads an address and a prefix, as plain mathematics; that it is what parseV and prefV read. No program stands in this text. -/
namespace Go.Proofs.YtmnemjhkmllniaaGreatDoor

/-! ### numbers -/
/-- A number without a bound. -/
def decW (acc : Nat) : Bs → Option Nat
  | [] => some acc
  | c :: r => if 48 ≤ c.toNat ∧ c.toNat ≤ 57 then decW (acc * 10 + (c.toNat - 48)) r else none
/-- A number up to a bound. -/
def decM (M acc : Nat) : Bs → Option Nat
  | [] => some acc
  | c :: r => if 48 ≤ c.toNat ∧ c.toNat ≤ 57 then (if M < acc * 10 + (c.toNat - 48) then none else decM M (acc * 10 + (c.toNat - 48)) r) else none
def numV (M : Nat) (l : Bs) : Option Nat := if l = [] ∨ (1 < l.length ∧ l.head? = some 48) then none else decM M 0 l
theorem decW_ge : ∀ (l : Bs) (acc n : Nat), decW acc l = some n → acc ≤ n
  | [], acc, n, h => by simp [decW] at h; omega
  | c :: r, acc, n, h => by
    unfold decW at h
    split at h
    · have := decW_ge r _ n h; omega
    · cases h
theorem decM_W : ∀ (l : Bs) (M acc : Nat), acc ≤ M → decM M acc l = (decW acc l).filter (· ≤ M)
  | [], M, acc, h => by simp [decM, decW, h, Option.filter]
  | c :: r, M, acc, h => by
    unfold decM decW
    split
    · split
      · rename_i h2
        cases hw : decW (acc * 10 + (c.toNat - 48)) r with
        | none => rfl
        | some n => have := decW_ge r _ n hw; simp [Option.filter]; omega
      · exact decM_W r M _ (by omega)
    · rfl
theorem parseUint_M : ∀ (l : Bs) (M acc : Nat), M < 1844674407370955162 → acc ≤ M → (match Lib.parseUintM M acc l with | .ok u => some u | _ => none) = decM M acc l
  | [], M, acc, _, _ => rfl
  | c :: r, M, acc, hM, h => by
    unfold Lib.parseUintM decM
    by_cases hc : 48 ≤ c.toNat ∧ c.toNat ≤ 57
    · rw [if_pos hc, if_pos hc, if_neg (by omega)]
      by_cases h2 : M < acc * 10 + (c.toNat - 48)
      · rw [if_pos h2, if_pos h2]
      · rw [if_neg h2, if_neg h2]; exact parseUint_M r M _ hM (by omega)
    · rw [if_neg hc, if_neg hc]
theorem lenV_num (l : Bs) : lenV l = numV 255 l := by
  unfold lenV numV
  by_cases h0 : l = []
  · subst h0; rfl
  · by_cases h1 : 1 < l.length ∧ l.head? = some 48
    · rw [if_pos h1, if_pos (Or.inr h1)]
    · rw [if_neg h1, if_neg (by intro e; rcases e with e | e; exact h0 e; exact h1 e)]
      unfold Lib.parseUintB
      rw [if_neg h0]
      exact parseUint_M l 255 0 (by decide) (by omega)
theorem numV_filter (l : Bs) : numV 128 l = (numV 255 l).filter (· ≤ 128) := by
  unfold numV
  split
  · rfl
  · rw [decM_W l 128 0 (by omega), decM_W l 255 0 (by omega)]
    cases decW 0 l with
    | none => rfl
    | some n =>
      simp only [Option.filter]
      by_cases h : n ≤ 128
      · simp [h, show n ≤ 255 by omega]
      · by_cases h' : n ≤ 255 <;> simp [h, h']
theorem decW_big : ∀ (l : Bs) (acc n : Nat), 1 ≤ acc → decW acc l = some n → acc * 10 ^ l.length ≤ n
  | [], acc, n, _, h => by simp [decW] at h; simp; omega
  | c :: r, acc, n, ha, h => by
    unfold decW at h
    split at h
    · have := decW_big r _ n (by omega) h
      rw [List.length_cons, Nat.pow_succ]
      calc acc * (10 ^ r.length * 10) = (acc * 10) * 10 ^ r.length := by rw [Nat.mul_comm (10 ^ r.length) 10, ← Nat.mul_assoc]
        _ ≤ (acc * 10 + (c.toNat - 48)) * 10 ^ r.length := Nat.mul_le_mul_right _ (by omega)
        _ ≤ n := this
    · cases h
theorem decV_num (l : Bs) : decV l = numV 255 l := by
  by_cases h3 : 3 < l.length
  · have hd : decV l = none := by unfold decV; rw [if_pos (Or.inl h3)]
    rw [hd]
    unfold numV
    split
    · rfl
    · rename_i hc
      rw [decM_W l 255 0 (by omega)]
      match l, h3, hc with
      | c :: r, h3, hc =>
        unfold decW
        by_cases hcd : 48 ≤ c.toNat ∧ c.toNat ≤ 57
        · rw [if_pos hcd]
          have hne : c.toNat ≠ 48 := by
            intro e
            apply hc
            right
            exact ⟨by omega, by simp; exact UInt8.toNat_inj.1 e⟩
          cases hw : decW (0 * 10 + (c.toNat - 48)) r with
          | none => rfl
          | some n =>
            have := decW_big r _ n (by omega) hw
            have hp : 10 ^ 3 ≤ 10 ^ r.length := Nat.pow_le_pow_right (by decide) (by simp at h3; omega)
            have : 1 * 10 ^ r.length ≤ (0 * 10 + (c.toNat - 48)) * 10 ^ r.length := Nat.mul_le_mul_right _ (by omega)
            simp [Option.filter]; omega
        · rw [if_neg hcd]; rfl
  · rw [← lenV_num]
    unfold decV lenV
    by_cases h1 : 1 < l.length ∧ l.head? = some 48
    · rw [if_pos (Or.inr h1), if_pos h1]
    · rw [if_neg (by intro e; rcases e with e | e; exact h3 e; exact h1 e), if_neg h1]
      all_goals (cases Lib.parseUintB 8 l <;> rfl)

/-! ### what stands between a byte -/
def splitA (k : UInt8) (cur : Bs) : Bs → List Bs
  | [] => [cur]
  | b :: r => if b = k then cur :: splitA k [] r else splitA k (cur ++ [b]) r
def splitV (k : UInt8) (s : Bs) : List Bs := splitA k [] s
theorem splitA_plain (k : UInt8) : ∀ (p cur r : Bs), (∀ c ∈ p, c ≠ k) → splitA k cur (p ++ r) = splitA k (cur ++ p) r
  | [], cur, r, _ => by simp
  | b :: p, cur, r, h => by
    rw [List.cons_append]
    have e : splitA k cur (b :: (p ++ r)) = splitA k (cur ++ [b]) (p ++ r) := by
      conv => lhs; unfold splitA
      rw [if_neg (h b (by simp))]
    rw [e, splitA_plain k p (cur ++ [b]) r (fun c hc => h c (by simp [hc]))]
    simp
theorem splitV_cut (k : UInt8) (s : Bs) : splitV k s = (Lib.cut s [k]).1 :: (if (Lib.cut s [k]).2.2 = true then splitV k (Lib.cut s [k]).2.1 else []) := by
  rcases cut1_cases k s with ⟨e, hf, hp⟩ | ⟨e, hp⟩
  · rw [if_pos hf]
    conv => lhs; rw [e]
    unfold splitV
    rw [splitA_plain k _ [] _ hp, List.nil_append]
    conv => lhs; unfold splitA
    rw [if_pos rfl]
  · rw [e]
    simp only [Bool.false_eq_true, if_false]
    unfold splitV
    have := splitA_plain k s [] [] hp
    rw [List.append_nil] at this
    rw [this]
    simp [splitA]
theorem splitV_ne (k : UInt8) (s : Bs) : splitV k s ≠ [] := by rw [splitV_cut]; simp

/-! ### four numbers -/
def fourF : Nat → List Bs → Option Nat
  | acc, [] => some acc
  | acc, p :: r => match numV 255 p with
    | none => none
    | some n => fourF (acc * 256 + n) r
def rfour (s : Bs) : Option Nat := if (splitV 46 s).length = 4 then fourF 0 (splitV 46 s) else none
theorem four4_split : ∀ (k acc : Nat) (s : Bs), four4 (k + 1) acc s = if (splitV 46 s).length = k + 1 then fourF acc (splitV 46 s) else none
  | 0, acc, s => by
    rw [splitV_cut]
    unfold four4
    rw [decV_num]
    cases hn : numV 255 (Lib.cut s [46]).1 with
    | none => simp [fourF, hn]
    | some n =>
      cases hf : (Lib.cut s [46]).2.2
      · simp [fourF, hn, four4]
      · have := splitV_ne 46 (Lib.cut s [46]).2.1
        have hl := List.length_pos_iff.2 this
        rw [if_neg (by simp only [if_true, List.length_cons]; omega)]
        simp
  | k + 1, acc, s => by
    rw [splitV_cut]
    have ih := fun n => four4_split k (acc * 256 + n) (Lib.cut s [46]).2.1
    unfold four4
    rw [decV_num]
    cases hn : numV 255 (Lib.cut s [46]).1 with
    | none => simp [fourF, hn]
    | some n =>
      cases hf : (Lib.cut s [46]).2.2
      · simp
      · simp only [Nat.zero_lt_succ, decide_true, bne_self_eq_false, Bool.false_eq_true, if_false, if_true, List.length_cons]
        rw [ih n]
        by_cases hl : (splitV 46 (Lib.cut s [46]).2.1).length = k + 1
        · rw [if_pos hl, if_pos (by omega)]; simp [fourF, hn]
        · rw [if_neg hl, if_neg (by omega)]
theorem rfour_is (s : Bs) : rfour s = fourV s := by
  unfold rfour fourV; rw [four4_split 3 0 s]

/-! ### groups -/
def partG (last : Bool) (p : Bs) : Option (List Nat) := match (if last = true then rfour p else none) with
  | some v => some [v / 65536, v % 65536]
  | none => (groupV p).map (fun g => [g])
def partsG (last : Bool) : List Bs → List Nat → Option (List Nat)
  | [], all => some all
  | p :: r, all => match partG (last && r.isEmpty) p with
    | none => none
    | some l => partsG last r (all ++ l)
def rgroups (s : Bs) (last : Bool) : Option (List Nat) := if s = [] then some [] else partsG last (splitV 58 s) []
theorem partsG_len (last : Bool) : ∀ (ps : List Bs) (all l : List Nat), partsG last ps all = some l → all.length + ps.length ≤ l.length
  | [], all, l, h => by simp [partsG] at h; subst h; simp
  | p :: r, all, l, h => by
    unfold partsG at h
    cases hp : partG (last && r.isEmpty) p with
    | none => rw [hp] at h; cases h
    | some q =>
      rw [hp] at h
      have ih := partsG_len last r _ l h
      have hq : 1 ≤ q.length := by
        unfold partG at hp
        split at hp
        · cases hp; simp
        · cases hg : groupV p with
          | none => rw [hg] at hp; cases hp
          | some g => rw [hg] at hp; simp at hp; subst hp; simp
      simp at ih ⊢; omega
theorem four_dot {p : Bs} {n : Nat} (h : fourV p = some n) : Lib.contains p [46] = true := by
  by_cases hc : Lib.contains p [46] = true
  · exact hc
  · exfalso
    have hp : ∀ c ∈ p, c ≠ 46 := by
      rcases first_of 46 p with ⟨a, b, rfl, _⟩ | h'
      · exact absurd (has_some (by simp)) hc
      · exact h'
    unfold fourV four4 at h
    rw [cut1_none hp] at h
    cases hd : decV p with
    | none => rw [hd] at h; cases h
    | some d => rw [hd] at h; simp at h
theorem dot_group {p : Bs} (h : Lib.contains p [46] = true) : groupV p = none := by
  cases hg : groupV p with
  | none => rfl
  | some g =>
    exfalso
    have : ∀ c ∈ p, c ≠ 46 := by
      unfold groupV at hg; split at hg
      · cases hg
      · exact hexM_ne p 0 g hg
    rw [has_none this] at h; cases h
where
  hexM_ne : ∀ (l : Bs) (acc n : Nat), hexM acc l = some n → ∀ c ∈ l, c ≠ 46
    | [], _, _, _ => by intro c hc; cases hc
    | c :: r, acc, n, h => by
      unfold hexM at h
      cases hd : hexD c with
      | none => rw [hd] at h; cases h
      | some d =>
        rw [hd] at h
        have ih := hexM_ne r _ n h
        intro b hb
        rcases List.mem_cons.1 hb with rfl | e
        · rintro rfl; rw [show hexD 46 = none by decide] at hd; cases hd
        · exact ih b e
/-- Group by group: with so many rounds at most. -/
theorem groupsV_parts (ends : Bool) : ∀ (k : Nat) (all : List Nat) (s : Bs), groupsV ends k all s = if (splitV 58 s).length ≤ k then partsG ends (splitV 58 s) all else none
  | 0, all, s => by
    have := List.length_pos_iff.2 (splitV_ne 58 s)
    rw [if_neg (by omega)]; rfl
  | k + 1, all, s => by
    rw [splitV_cut]
    have ih := fun l => groupsV_parts ends k l (Lib.cut s [58]).2.1
    unfold groupsV
    cases hf : (Lib.cut s [58]).2.2
    · have hle : 0 + 1 ≤ k + 1 := by omega
      simp only [Bool.not_false, Bool.and_true, Bool.false_eq_true, if_false, List.length_cons, List.length_nil, hle, if_true]
      simp only [partsG, List.isEmpty_nil, Bool.and_true, partG]
      cases ends
      · simp only [Bool.false_and, Bool.false_eq_true, if_false]
        cases hg : groupV (Lib.cut s [58]).1 <;> simp
      · simp only [Bool.true_and, if_true, rfour_is]
        by_cases hd : Lib.contains (Lib.cut s [58]).1 [46] = true
        · rw [if_pos hd]
          cases h4 : fourV (Lib.cut s [58]).1 with
          | none => simp [dot_group hd]
          | some v => simp
        · rw [if_neg hd]
          cases h4 : fourV (Lib.cut s [58]).1 with
          | none => cases hg : groupV (Lib.cut s [58]).1 <;> simp
          | some v => exact absurd (four_dot h4) hd
    · have hne := splitV_ne 58 (Lib.cut s [58]).2.1
      simp only [Bool.not_true, Bool.and_false, Bool.false_and, Bool.false_eq_true, if_false, if_true, List.length_cons]
      have hemp : (splitV 58 (Lib.cut s [58]).2.1).isEmpty = false := by
        cases h : splitV 58 (Lib.cut s [58]).2.1 with
        | nil => exact absurd h hne
        | cons a b => rfl
      simp only [partsG, hemp, Bool.and_false, partG, Bool.false_eq_true, if_false]
      cases hg : groupV (Lib.cut s [58]).1 with
      | none => simp
      | some g =>
        simp only [Option.map_some]
        rw [ih]
        by_cases hl : (splitV 58 (Lib.cut s [58]).2.1).length ≤ k
        · rw [if_pos hl, if_pos (by omega)]
        · rw [if_neg hl, if_neg (by omega)]
end Go.Proofs.YtmnemjhkmllniaaGreatDoor

/- The checker's reading of an address and of a prefix is parseV and prefV. No program stands in this text. -/
namespace Go.Proofs.YtmnemjhkmllniaaGreatDoor

def six8 (f b : List Nat) : Option (Nat × Nat) := if 8 ≤ f.length + b.length then none else some (6, joinV (f ++ List.replicate (8 - f.length - b.length) 0 ++ b))
def rsix (s : Bs) : Option (Nat × Nat) :=
  if (Lib.cut s [58, 58]).2.2 = false then match rgroups s true with
    | none => none
    | some l => if l.length = 8 then some (6, joinV l) else none
  else match rgroups (Lib.cut s [58, 58]).1 false, rgroups (Lib.cut s [58, 58]).2.1 true with
    | some f, some b => six8 f b
    | _, _ => none
def rparse (s : Bs) : Option (Nat × Nat) := match rfour s with
  | some n => some (4, n)
  | none => rsix s
theorem rgroups_side (s : Bs) (ends : Bool) : (∃ l, rgroups s ends = some l ∧ sideV ends s = some l) ∨ (rgroups s ends = none ∧ sideV ends s = none) ∨ (∃ l, rgroups s ends = some l ∧ sideV ends s = none ∧ 9 ≤ l.length) := by
  unfold rgroups sideV
  by_cases h : s = []
  · subst h; exact Or.inl ⟨[], rfl, rfl⟩
  · rw [if_neg h, if_neg h, groupsV_parts]
    cases hp : partsG ends (splitV 58 s) [] with
    | none => right; left; exact ⟨rfl, by split <;> rfl⟩
    | some l =>
      by_cases hl : (splitV 58 s).length ≤ 8
      · left; exact ⟨l, rfl, by rw [if_pos hl]⟩
      · right; right
        have := partsG_len ends _ _ l hp
        exact ⟨l, rfl, by rw [if_neg hl], by simp at this; omega⟩
theorem rsix_is (s : Bs) : rsix s = (sixV s).map (6, ·) := by
  unfold rsix sixV
  by_cases hf : (Lib.cut s [58, 58]).2.2 = false
  · rw [if_pos hf, if_pos hf]
    by_cases hs : s = []
    · subst hs; decide
    · have hg : groupsV true 8 [] s = sideV true s := by unfold sideV; rw [if_neg hs]
      rw [hg]
      rcases rgroups_side s true with ⟨l, h1, h2⟩ | ⟨h1, h2⟩ | ⟨l, h1, h2, h3⟩
      · rw [h1, h2]; simp only; split <;> rfl
      · rw [h1, h2]; rfl
      · rw [h1, h2]; simp only; rw [if_neg (by omega)]; rfl
  · rw [if_neg hf, if_neg hf]
    rcases rgroups_side (Lib.cut s [58, 58]).1 false with ⟨f, h1, h2⟩ | ⟨h1, h2⟩ | ⟨f, h1, h2, h3⟩
    · rcases rgroups_side (Lib.cut s [58, 58]).2.1 true with ⟨b, g1, g2⟩ | ⟨g1, g2⟩ | ⟨b, g1, g2, g3⟩
      · rw [h1, h2, g1, g2]; simp only [six8]; split <;> rfl
      · rw [h1, h2, g1, g2]; rfl
      · rw [h1, h2, g1, g2]; simp only [six8]; rw [if_pos (by omega)]; rfl
    · rw [h1, h2]; cases rgroups (Lib.cut s [58, 58]).2.1 true <;> cases sideV true (Lib.cut s [58, 58]).2.1 <;> rfl
    · rcases rgroups_side (Lib.cut s [58, 58]).2.1 true with ⟨b, g1, g2⟩ | ⟨g1, g2⟩ | ⟨b, g1, g2, g3⟩
      · rw [h1, h2, g1, g2]; simp only [six8]; rw [if_pos (by omega)]; rfl
      · rw [h1, h2, g1, g2]; rfl
      · rw [h1, h2, g1, g2]; simp only [six8]; rw [if_pos (by omega)]; rfl
theorem rparse_is (s : Bs) : rparse s = parseV s := by
  unfold rparse parseV
  rw [rfour_is]
  by_cases hc : Lib.contains s [58] = true
  · rw [if_pos hc]
    have h4 : fourV s = none := by
      cases h : fourV s with
      | none => rfl
      | some n =>
        exfalso
        have := fourV_plain h 58 (by decide)
        rw [has_none this] at hc; cases hc
    rw [h4]
    exact rsix_is s
  · rw [if_neg hc]
    cases h : fourV s with
    | some n => rfl
    | none =>
      simp only [Option.map_none]
      have hp : ∀ c ∈ s, c ≠ 58 := by
        rcases first_of 58 s with ⟨a, b, rfl, _⟩ | h'
        · exact absurd (has_some (by simp)) hc
        · exact h'
      unfold rsix
      have hcut : Lib.cut s [58, 58] = (s, [], false) := by
        rcases cut2_cases s with ⟨e, _⟩ | e
        · exfalso; exact hp 58 (by rw [e]; simp) rfl
        · exact e
      rw [hcut]
      simp only [if_true]
      unfold rgroups
      by_cases hs : s = []
      · subst hs; rfl
      · rw [if_neg hs, splitV_cut, cut1_none hp]
        simp only [Bool.false_eq_true, if_false, partsG, List.isEmpty_nil, Bool.and_true, partG, if_true, rfour_is, h]
        cases groupV s <;> simp
/-- The checker's reading of a prefix, cut where the last stroke stands. -/
theorem prefM_filter (a : Option (Nat × Nat)) (l : Option Nat) : prefM a (l.filter (· ≤ 128)) = prefM a l := by
  cases a with
  | none => rfl
  | some vx =>
    obtain ⟨v, x⟩ := vx
    cases l with
    | none => rfl
    | some n =>
      by_cases h : n ≤ 128
      · simp [Option.filter, h]
      · simp only [Option.filter, h, decide_false, Bool.false_eq_true, if_false]
        have : ¬ okP v x n = true := fun hk => by have := okP_lt hk; omega
        simp [prefM, this]
theorem lenV_stroke {l : Bs} (h : 47 ∈ l) : lenV l = none := by
  unfold lenV
  split
  · rfl
  · cases hu : Lib.parseUintB 8 l with
    | ok u => exact absurd rfl (digit_ne (parseUintB_digits hu 47 h) (k := 47) (by decide))
    | «syntax» => rfl
    | range => rfl
theorem rpref_is (p r : Bs) : prefM (rparse p) (numV 128 r) = prefV (p ++ 47 :: r) := by
  rw [rparse_is, numV_filter, prefM_filter, ← lenV_num]
  rcases first_of 47 p with ⟨a, b, rfl, ha⟩ | hp
  · have h1 : parseV (a ++ 47 :: b) = none := by
      cases h : parseV (a ++ 47 :: b) with
      | none => rfl
      | some x => exact absurd rfl (parseV_plain h 47 (by simp))
    rw [h1]
    unfold prefV
    rw [List.append_assoc, List.cons_append, cut1_some ha]
    simp only
    rw [lenV_stroke (l := b ++ 47 :: r) (by simp)]
    cases parseV a with
    | none => rfl
    | some x => rfl
  · unfold prefV
    rw [cut1_some hp]
theorem rpref_none (s : Bs) (h : ∀ c ∈ s, c ≠ 47) : prefV s = none := by
  unfold prefV
  rw [cut1_none h]
  simp only
  rw [show lenV [] = none by decide]
  cases parseV s with
  | none => rfl
  | some x => rfl
/-- Where the last stroke stands. -/
theorem last_of (k : UInt8) (s : Bs) : (∃ p r, s = p ++ k :: r ∧ ∀ c ∈ r, c ≠ k) ∨ (∀ c ∈ s, c ≠ k) := by
  rcases first_of k s.reverse with ⟨p, r, e, hp⟩ | h
  · left
    refine ⟨r.reverse, p.reverse, ?_, fun c hc => hp c (by simpa using hc)⟩
    have := congrArg List.reverse e
    simpa using this
  · right; intro c hc; exact h c (by simpa using hc)
end Go.Proofs.YtmnemjhkmllniaaGreatDoor

/- How the checker tells an address, as plain mathematics: digit by digit, row of noughts, group by group; that it is what tellV tells. No program stands in this text. -/
namespace Go.Proofs.YtmnemjhkmllniaaGreatDoor

/-- Digits of a number that is not nought; nothing of nought. -/
def dd (m : Nat) : Bs := if m = 0 then [] else decS m
theorem dd_step : ∀ m, m < 256 → 0 < m → dd m = dd (m / 10) ++ [decC (m % 10)] := by decide +kernel
theorem dd_pos {m : Nat} (h : 0 < m) : dd m = decS m := if_neg (by omega)
def dh (m : Nat) : Bs := if m = 0 then [] else hexS m
theorem dh_pos {m : Nat} (h : 0 < m) : dh m = hexS m := if_neg (by omega)
theorem dh_step (m : Nat) (h : m < 65536) (h0 : 0 < m) : dh m = dh (m / 16) ++ [hexC (m % 16)] := by
  rw [dh_pos h0]
  by_cases c1 : m < 16
  · rw [show m / 16 = 0 by omega, show m % 16 = m by omega]
    simp [dh, hexS, c1]
  · rw [dh_pos (show 0 < m / 16 by omega)]
    by_cases c2 : m < 256
    · simp [hexS, c1, c2, show m / 16 < 16 by omega]
    · by_cases c3 : m < 4096
      · simp [hexS, c1, c2, c3, show ¬ m / 16 < 16 by omega, show m / 16 < 256 by omega, show m / 16 / 16 = m / 256 by omega]
      · simp [hexS, c1, c2, c3, show ¬ m / 16 < 16 by omega, show ¬ m / 16 < 256 by omega, show m / 16 < 4096 by omega, show m / 16 / 256 = m / 4096 by omega, show m / 16 / 16 = m / 256 by omega]
/-- How many noughts stand at the head. -/
def zrun : List Nat → Nat
  | [] => 0
  | g :: r => if g = 0 then zrun r + 1 else 0
theorem zrun_le : ∀ l : List Nat, zrun l ≤ l.length
  | [] => Nat.le_refl _
  | g :: r => by unfold zrun; split; have := zrun_le r; simp; omega; simp
/-- Where the longest row of noughts stands, behind the first n places. -/
def zst (gs : List Nat) : Nat → Int × Nat
  | 0 => (-1, 1)
  | n + 1 => if (zst gs n).2 < zrun (gs.drop n) then ((n : Int), zrun (gs.drop n)) else zst gs n
theorem zst_bounds (gs : List Nat) (h8 : gs.length = 8) : ∀ n, n ≤ 8 → -1 ≤ (zst gs n).1 ∧ (zst gs n).1 < n ∧ 1 ≤ (zst gs n).2 ∧ (zst gs n).2 ≤ 8
  | 0, _ => by simp [zst]
  | n + 1, hn => by
    have ih := zst_bounds gs h8 n (by omega)
    have hz := zrun_le (gs.drop n)
    rw [List.length_drop, h8] at hz
    unfold zst
    split
    · simp; omega
    · omega
/-- The same over what is nought and what is not. -/
def zrunB : List Bool → Nat
  | [] => 0
  | b :: r => if b then zrunB r + 1 else 0
def zstB (bs : List Bool) : Nat → Int × Nat
  | 0 => (-1, 1)
  | n + 1 => if (zstB bs n).2 < zrunB (bs.drop n) then ((n : Int), zrunB (bs.drop n)) else zstB bs n
def longestB : Nat → Nat → Nat → Nat → List Bool → Nat × Nat
  | _, _, f, t, [] => (f, t)
  | i, start, f, t, b :: r => if b = false then longestB (i + 1) (i + 1) f t r else if t - f < i + 1 - start then longestB (i + 1) start start (i + 1) r else longestB (i + 1) start f t r
def zmap (gs : List Nat) : List Bool := gs.map (fun g => decide (g = 0))
theorem zrun_map : ∀ gs : List Nat, zrun gs = zrunB (zmap gs)
  | [] => rfl
  | g :: r => by
    have ih := zrun_map r
    by_cases h : g = 0
    · simp [zrun, zmap, zrunB, h]; exact ih
    · simp [zrun, zmap, zrunB, h]
theorem zst_map (gs : List Nat) : ∀ n, zst gs n = zstB (zmap gs) n
  | 0 => rfl
  | n + 1 => by
    unfold zst zstB
    rw [zst_map gs n, zrun_map, show zmap (gs.drop n) = (zmap gs).drop n by simp [zmap, List.map_drop]]
theorem longest_map : ∀ (gs : List Nat) (i s f t : Nat), longest i s f t gs = longestB i s f t (zmap gs)
  | [], _, _, _, _ => rfl
  | g :: r, i, s, f, t => by
    have ih := longest_map r
    by_cases h : g = 0
    · simp [longest, longestB, zmap, h, ih]
    · simp [longest, longestB, zmap, h, ih]
theorem zst_8 : ∀ b0 b1 b2 b3 b4 b5 b6 b7 : Bool, (let bs := [b0, b1, b2, b3, b4, b5, b6, b7]
    ((longestB 0 0 0 0 bs).2 - (longestB 0 0 0 0 bs).1 < 2 ∧ (zstB bs 8).1 = -1) ∨ (¬ (longestB 0 0 0 0 bs).2 - (longestB 0 0 0 0 bs).1 < 2 ∧ (zstB bs 8).1 = ((longestB 0 0 0 0 bs).1 : Int) ∧ (longestB 0 0 0 0 bs).1 + (zstB bs 8).2 = (longestB 0 0 0 0 bs).2)) := by decide +kernel
theorem zst_longest (gs : List Nat) (h8 : gs.length = 8) :
    ((longest 0 0 0 0 gs).2 - (longest 0 0 0 0 gs).1 < 2 ∧ (zst gs 8).1 = -1) ∨ (¬ (longest 0 0 0 0 gs).2 - (longest 0 0 0 0 gs).1 < 2 ∧ (zst gs 8).1 = ((longest 0 0 0 0 gs).1 : Int) ∧ (longest 0 0 0 0 gs).1 + (zst gs 8).2 = (longest 0 0 0 0 gs).2) := by
  match gs, h8 with
  | [g0, g1, g2, g3, g4, g5, g6, g7], _ =>
    have := zst_8 (decide (g0 = 0)) (decide (g1 = 0)) (decide (g2 = 0)) (decide (g3 = 0)) (decide (g4 = 0)) (decide (g5 = 0)) (decide (g6 = 0)) (decide (g7 = 0))
    rw [longest_map, zst_map]
    exact this
/-- What is told behind the first i groups. -/
def told (gs : List Nat) (a : Int) (L i : Nat) : Bs :=
  if a < 0 ∨ (i : Int) ≤ a then tellGroups (gs.take i) else tellGroups (gs.take a.toNat) ++ ([58, 58] ++ tellGroups ((gs.drop (a.toNat + L)).take (i - (a.toNat + L))))
/-- A colon, if there is something that does not end in one. -/
def stepS (s : Bs) : Bs := if s = [] then s else if s.getLast? = some 58 then s else s ++ [58]
theorem tellGroups_snoc (M : List Nat) (g : Nat) (h : M ≠ []) : tellGroups (M ++ [g]) = tellGroups M ++ 58 :: hexS g := by
  unfold tellGroups
  match M, h with
  | m :: M, _ =>
    rw [List.map_append, List.map_cons, List.cons_append, Lib.join_cons, Lib.join_cons]
    simp [Lib.joinTail]
theorem tellGroups_one (g : Nat) : tellGroups [g] = hexS g := Lib.join_one _ _
theorem hexS_last (g : Nat) (h : g < 65536) : (hexS g).getLast? ≠ some 58 := by
  intro e
  have := List.mem_of_getLast? e
  exact (hexS_mem g h _ this).1 rfl
theorem tellGroups_last : ∀ (M : List Nat), (∀ g ∈ M, g < 65536) → (tellGroups M).getLast? ≠ some 58 := by
  intro M hM
  rcases List.eq_nil_or_concat M with rfl | ⟨M', g, rfl⟩
  · simp [tellGroups, Lib.join_nil]
  · have hg := hM g (by simp)
    by_cases h : M' = []
    · subst h; simp only [List.concat_eq_append, List.nil_append]; rw [tellGroups_one]; exact hexS_last g hg
    · rw [List.concat_eq_append, tellGroups_snoc M' g h, List.getLast?_append]
      have : (58 :: hexS g).getLast? = (hexS g).getLast? := by
        have hne := hexS_ne g
        cases hh : hexS g with
        | nil => exact absurd hh hne
        | cons c r => rfl
      rw [this]
      cases hl : (hexS g).getLast? with
      | none => rw [List.getLast?_eq_none_iff] at hl; exact absurd hl (hexS_ne g)
      | some c => intro e; exact hexS_last g hg (by rw [hl]; simpa using e)
theorem stepS_groups (M : List Nat) (g : Nat) (hM : ∀ g ∈ M, g < 65536) : stepS (tellGroups M) ++ hexS g = tellGroups (M ++ [g]) := by
  by_cases h : M = []
  · subst h; simp only [List.nil_append]; rw [tellGroups_one]; rfl
  · rw [tellGroups_snoc M g h]
    unfold stepS
    rw [if_neg (tellGroups_ne h), if_neg (tellGroups_last M hM)]
    simp
theorem stepS_behind (A : Bs) (M : List Nat) (g : Nat) (hM : ∀ g ∈ M, g < 65536) : stepS (A ++ ([58, 58] ++ tellGroups M)) ++ hexS g = A ++ ([58, 58] ++ tellGroups (M ++ [g])) := by
  have hne : A ++ ([58, 58] ++ tellGroups M) ≠ [] := by simp
  by_cases h : M = []
  · subst h
    unfold stepS
    rw [if_neg hne, if_pos (by simp [tellGroups, Lib.join_nil])]
    simp [tellGroups, Lib.join_nil, Lib.join_one]
  · have hl : (A ++ ([58, 58] ++ tellGroups M)).getLast? = (tellGroups M).getLast? := by
      rw [List.getLast?_append, List.getLast?_append]
      cases e : (tellGroups M).getLast? with
      | none => rw [List.getLast?_eq_none_iff] at e; exact absurd e (tellGroups_ne h)
      | some c => rfl
    unfold stepS
    rw [if_neg hne, if_neg (by rw [hl]; exact tellGroups_last M hM), tellGroups_snoc M g h]
    simp
theorem told_step (gs : List Nat) (a : Int) (L i : Nat) (h8 : gs.length = 8) (hg : ∀ g ∈ gs, g < 65536) (hi : i < 8) (hne : (i : Int) ≠ a) (hout : (i : Int) < a ∨ a < 0 ∨ a.toNat + L ≤ i) :
    stepS (told gs a L i) ++ hexS (gs.getD i 0) = told gs a L (i + 1) := by
  have hget : gs.getD i 0 = gs[i]'(by omega) := by simp [List.getD, List.getElem?_eq_getElem (show i < gs.length by omega)]
  rw [hget]
  unfold told
  by_cases hb : a < 0 ∨ (i : Int) ≤ a
  · rw [if_pos hb, if_pos (by omega), stepS_groups _ _ (fun g h => hg g (List.mem_of_mem_take h)), List.take_succ_eq_append_getElem (by omega)]
  · rw [if_neg hb, if_neg (by omega), stepS_behind _ _ _ (fun g h => hg g (List.mem_of_mem_drop (List.mem_of_mem_take h)))]
    have hk : a.toNat + L ≤ i := by omega
    congr 3
    rw [show i + 1 - (a.toNat + L) = (i - (a.toNat + L)) + 1 by omega, List.take_succ_eq_append_getElem (by simp; omega)]
    congr 2
    rw [List.getElem_drop]
    congr 1
    omega
theorem told_jump (gs : List Nat) (a : Nat) (L : Nat) (hL : 1 ≤ L) : told gs a L a ++ [58, 58] = told gs a L (a + L) := by
  unfold told
  rw [if_pos (by omega), if_neg (by omega)]
  simp [tellGroups, Lib.join_nil]
theorem told_start (gs : List Nat) (a : Int) (L : Nat) : told gs a L 0 = [] := by
  unfold told
  rw [if_pos (by omega)]
  simp [tellGroups, Lib.join_nil]
theorem told_end (gs : List Nat) (h8 : gs.length = 8) : told gs (zst gs 8).1 (zst gs 8).2 8 = tellSix gs := by
  have hl := longest_all gs
  rcases zst_longest gs h8 with ⟨h1, h2⟩ | ⟨h1, h2, h3⟩
  · unfold told tellSix
    rw [h2, if_pos (by omega), if_pos h1, List.take_of_length_le (by omega)]
  · unfold told tellSix
    rw [h2, if_neg h1, if_neg (by omega), Int.toNat_natCast, h3, List.take_of_length_le (l := gs.drop (longest 0 0 0 0 gs).2) (by rw [List.length_drop]; omega)]
theorem told_len (gs : List Nat) (a : Int) (L i : Nat) (h8 : gs.length = 8) : (told gs a L i).length ≤ 100 := by
  unfold told
  split
  · have := tellGroups_len (gs.take i); simp at this; omega
  · have a1 := tellGroups_len (gs.take a.toNat)
    have a2 := tellGroups_len ((gs.drop (a.toNat + L)).take (i - (a.toNat + L)))
    simp at a1 a2 ⊢
    omega
theorem tellFour_eq (x : Nat) : tellFour x = decS (x / 16777216 % 256) ++ [46] ++ decS (x / 65536 % 256) ++ [46] ++ decS (x / 256 % 256) ++ [46] ++ decS (x % 256) := by
  unfold tellFour; rw [Lib.join_cons]; simp [Lib.joinTail]
end Go.Proofs.YtmnemjhkmllniaaGreatDoor
