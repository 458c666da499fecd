/- Values told with anything between their signs, and read again (chapter 11), as mathematics. -/
import Derived.Test.YtgiihljiekagdaaDoorJd
import Derived.Test.YtgiihljiekagdaaDoorJt
namespace Go.Proofs.YtgiihljiekagdaaDoor
/-- What may stand between signs. -/
def FillJ (w : Bs) : Prop := (∀ f i c r, stopJ c = true → skipJ 0 f i (w ++ c :: r) = .ok () (i + w.length) (c :: r)) ∧ ∀ r, tailJ (r.headD 0) = false → tailJ ((w ++ r).headD 0) = false
theorem fill_nil : FillJ [] := ⟨fun f i c r h => by simpa using skip_stop h f i r, fun r h => h⟩
theorem skip_blank {c : UInt8} (h : blankJ c = true) (f i : Nat) (r : Bs) : skipJ 0 f i (c :: r) = skipJ 0 f (i + 1) r := by
  simp [skipJ, h]
theorem blank_tail {c : UInt8} (h : blankJ c = true) : tailJ c = false := by
  have : ∀ n, n < 256 → blankJ (UInt8.ofNat n) = true → tailJ (UInt8.ofNat n) = false := by decide +kernel
  have := this c.toNat c.toNat_lt
  simp at this
  exact this h
theorem fill_blank {c : UInt8} {w : Bs} (h : blankJ c = true) (hw : FillJ w) : FillJ (c :: w) := by
  refine ⟨fun f i d r hd => ?_, fun r _ => by simpa using blank_tail h⟩
  rw [List.cons_append, skip_blank h, hw.1 f (i + 1) d r hd]
  congr 1
  simp; omega
theorem skip_line : ∀ (q : Bs) (f i : Nat) (r : Bs), 10 ∉ q → skipJ 1 f i (q ++ 10 :: r) = skipJ 0 f (i + q.length + 1) r
  | [], f, i, r, _ => by simp [skipJ]
  | c :: q, f, i, r, h => by
    simp at h
    rw [List.cons_append, skipJ, if_pos rfl, if_neg (fun e => h.1 e.symm), skip_line q f (i + 1) r h.2]
    congr 1
    simp; omega
/-- A line's comment. -/
theorem fill_hash {q w : Bs} (h : 10 ∉ q) (hw : FillJ w) : FillJ (35 :: (q ++ 10 :: w)) := by
  refine ⟨fun f i d r hd => ?_, fun r _ => by simp [tailJ, digitJ]⟩
  have e : 35 :: (q ++ 10 :: w) ++ d :: r = 35 :: (q ++ 10 :: (w ++ d :: r)) := by simp
  rw [e, skipJ]
  simp [blankJ]
  rw [skip_line q f (i + 1) _ h, hw.1 f _ d r hd]
  congr 1
  omega
theorem fill_two {q w : Bs} (h : 10 ∉ q) (hw : FillJ w) : FillJ (47 :: 47 :: (q ++ 10 :: w)) := by
  refine ⟨fun f i d r hd => ?_, fun r _ => by simp [tailJ, digitJ]⟩
  have e : 47 :: 47 :: (q ++ 10 :: w) ++ d :: r = 47 :: ((47 :: q) ++ 10 :: (w ++ d :: r)) := by simp
  rw [e, skipJ]
  simp only [blankJ, List.cons_append, List.head?_cons]
  have hl := skip_line (47 :: q) f (i + 1) (w ++ d :: r) (by simp [h])
  rw [List.cons_append] at hl
  simp
  rw [hl, hw.1 f _ d r hd]
  congr 1
  simp; omega
/-- The comment with an end of the law. -/
theorem fill_star : FillJ [47, 42, 32, 34, 32, 42, 47] := by
  refine ⟨fun f i d r hd => ?_, fun r _ => by simp [tailJ, digitJ]⟩
  simp [stopJ, blankJ] at hd
  simp [skipJ, blankJ, hd]
/-- A value that is in none: how it may be told. -/
def LeafJ : Js → Bs → Prop
  | .mk k x t l q _, s => l = [] ∧ q = [] ∧
    ((k = 1 ∧ x = 0 ∧ t = [] ∧ s = [110, 117, 108, 108]) ∨ (k = 2 ∧ x = 0 ∧ t = [] ∧ s = [102, 97, 108, 115, 101]) ∨ (k = 3 ∧ x = 0 ∧ t = [] ∧ s = [116, 114, 117, 101]) ∨
      (k = 4 ∧ t = [] ∧ numJ s = some x ∧ (∀ c ∈ s, tailJ c = true) ∧ ∃ c s2, s = c :: s2 ∧ (c = 45 ∨ digitJ c = true)) ∨
      (k = 5 ∧ x = 0 ∧ ∃ s2, s = 34 :: s2 ∧ ∀ i r, textJ i (s ++ r) = .ok t (i + s.length) r))
/-- Values in a list, or with names in a map: how they may be told. -/
def TellsI (T : Js → Bs → Prop) (m : Bool) : List Js → List Bs → Bs → Prop
  | [], _, _ => False
  | v :: vs, ks, s => ∃ (nm sv w tl : Bs) (k2 : List Bs), s = nm ++ (sv ++ (w ++ tl)) ∧ T v sv ∧ FillJ w ∧
      (if m then ∃ (key tk w1 w2 : Bs), ks = key :: k2 ∧ nm = tk ++ (w1 ++ 58 :: w2) ∧ FillJ w1 ∧ FillJ w2 ∧ (∃ t2, tk = 34 :: t2) ∧ ∀ i r, textJ i (tk ++ r) = .ok key (i + tk.length) r else nm = [] ∧ ks = [] ∧ k2 = []) ∧
      (if vs = [] then tl = [] ∧ k2 = [] else ∃ w3 s3, tl = 44 :: (w3 ++ s3) ∧ FillJ w3 ∧ TellsI T m vs k2 s3)
def TellsJ : Nat → Js → Bs → Prop
  | 0, v, s => LeafJ v s
  | n + 1, v, s => LeafJ v s ∨ ∃ (m : Bool) (l : List Js) (q : List Bs) (a : Nat) (w b : Bs), v = .mk (if m then 7 else 6) 0 [] l q a ∧ FillJ w ∧
      s = (if m then 123 else 91) :: (w ++ (b ++ [if m then 125 else 93])) ∧ q.Nodup ∧ (if l = [] then b = [] ∧ q = [] else TellsI (TellsJ n) m l q b)
/-- The same, but for places, in the same order. -/
def eqJ : Nat → Js → Js → Prop
  | 0, _, _ => False
  | n + 1, .mk k x t l q _, .mk k2 x2 t2 l2 q2 _ => k = k2 ∧ x = x2 ∧ t = t2 ∧ q = q2 ∧ l.length = l2.length ∧ ∀ (i : Nat) (u v : Js), l[i]? = some u → l2[i]? = some v → eqJ n u v
theorem eqJ_ok : ∀ (n : Nat) (a b : Js), okJ n a → eqJ n a b → okJ n b ∧ sameV n a b = true
  | 0, _, _, h, _ => h.elim
  | n + 1, .mk k x t l q a, .mk k2 x2 t2 l2 q2 a2, h, he => by
    obtain ⟨hl, hq, hn⟩ := h
    obtain ⟨rfl, rfl, rfl, rfl, hll, hi⟩ := he
    refine ⟨⟨fun v hv => ?_, by rw [hq, hll], hn⟩, sameV_is.2 ⟨rfl, rfl, rfl, hll, rfl, fun i hlt => ?_⟩⟩
    · obtain ⟨i, hlt, rfl⟩ := List.getElem_of_mem hv
      have h1 : l[i]? = some l[i] := List.getElem?_eq_getElem (by omega)
      exact (eqJ_ok n _ _ (hl _ (List.mem_of_getElem? h1)) (hi i _ _ h1 (List.getElem?_eq_getElem hlt))).1
    · have h1 : l[i]? = some l[i] := List.getElem?_eq_getElem hlt
      have h2 : l2[i]? = some (l2[i]'(by omega)) := List.getElem?_eq_getElem (by omega)
      refine ⟨i, _, _, ?_, h1, h2, (eqJ_ok n _ _ (hl _ (List.mem_of_getElem? h1)) (hi i _ _ h1 h2)).2⟩
      unfold mateJ
      split
      · cases hs : q[i]? with
        | none => rfl
        | some s => exact keyJ_at hn hs
      · rfl
theorem stop_is {c : UInt8} (h : stopJ c = true) : blankJ c = false ∧ c ≠ 35 ∧ c ≠ 47 := by
  simp [stopJ] at h; exact ⟨h.1.1, h.1.2, h.2⟩
theorem word_ok : ∀ (q : Bs) (i : Nat) (r : Bs), wordJ q i (q ++ r) = .ok () (i + q.length) r
  | [], i, r => by simp [wordJ]
  | c :: q, i, r => by
    rw [wordJ, List.cons_append]
    simp only [signJ, if_true, PJ.andThen_ok, word_ok q (i + 1) r, List.length_cons]
    congr 1; omega
theorem take_all {s r : Bs} (h : ∀ c ∈ s, tailJ c = true) (hr : tailJ (r.headD 0) = false) : (s ++ r).takeWhile tailJ = s ∧ (s ++ r).dropWhile tailJ = r := by
  induction s with
  | nil =>
    cases r with
    | nil => exact ⟨rfl, rfl⟩
    | cons c r => simp at hr; simp [hr]
  | cons c s ih =>
    have hc := h c (by simp)
    obtain ⟨h1, h2⟩ := ih (fun d hd => h d (by simp [hd]))
    simp [hc, h1, h2]
/-- A value that is in none is read. -/
theorem leaf_read {v : Js} {s : Bs} (h : LeafJ v s) (n room i : Nat) (r : Bs) (hr : tailJ (r.headD 0) = false) : ∃ u, valueJ room i (s ++ r) = .ok u (i + s.length) r ∧ eqJ (n + 1) v u ∧ u.at_ = i ∧ ∃ c s2, s = c :: s2 ∧ stopJ c = true ∧ c ≠ 93 ∧ c ≠ 125 := by
  obtain ⟨k, x, t, l, q, a⟩ := v
  obtain ⟨rfl, rfl, h⟩ := h
  have hz : ∀ (i : Nat) (u v : Js), ([] : List Js)[i]? = some u → ([] : List Js)[i]? = some v → eqJ n u v := fun i u v h => by simp at h
  rcases h with ⟨rfl, rfl, rfl, rfl⟩ | ⟨rfl, rfl, rfl, rfl⟩ | ⟨rfl, rfl, rfl, rfl⟩ | ⟨rfl, rfl, hn, hs, c, s2, rfl, hc⟩ | ⟨rfl, rfl, s2, rfl, hs⟩
  · refine ⟨.mk 1 0 [] [] [] i, ?_, ⟨rfl, rfl, rfl, rfl, rfl, hz⟩, rfl, 110, _, rfl, by decide, by decide, by decide⟩
    have := word_ok [110, 117, 108, 108] i r
    simp only [List.cons_append, List.nil_append] at this ⊢
    unfold valueJ
    rw [this]
    simp [digitJ, PJ.andThen_ok]
  · refine ⟨.mk 2 0 [] [] [] i, ?_, ⟨rfl, rfl, rfl, rfl, rfl, hz⟩, rfl, 102, _, rfl, by decide, by decide, by decide⟩
    have := word_ok [102, 97, 108, 115, 101] i r
    simp only [List.cons_append, List.nil_append] at this ⊢
    unfold valueJ
    rw [this]
    simp [digitJ, PJ.andThen_ok]
  · refine ⟨.mk 3 0 [] [] [] i, ?_, ⟨rfl, rfl, rfl, rfl, rfl, hz⟩, rfl, 116, _, rfl, by decide, by decide, by decide⟩
    have := word_ok [116, 114, 117, 101] i r
    simp only [List.cons_append, List.nil_append] at this ⊢
    unfold valueJ
    rw [this]
    simp [digitJ, PJ.andThen_ok]
  · obtain ⟨h1, h2⟩ := take_all hs hr
    have hcc : c ≠ 91 ∧ c ≠ 123 ∧ c ≠ 34 ∧ stopJ c = true ∧ c ≠ 93 ∧ c ≠ 125 := by
      have : ∀ n, n < 256 → (UInt8.ofNat n = 45 ∨ digitJ (UInt8.ofNat n) = true) → UInt8.ofNat n ≠ 91 ∧ UInt8.ofNat n ≠ 123 ∧ UInt8.ofNat n ≠ 34 ∧ stopJ (UInt8.ofNat n) = true ∧ UInt8.ofNat n ≠ 93 ∧ UInt8.ofNat n ≠ 125 := by decide +kernel
      have := this c.toNat c.toNat_lt
      simp only [UInt8.ofNat_toNat] at this
      exact this hc
    refine ⟨.mk 4 x [] [] [] i, ?_, ⟨rfl, rfl, rfl, rfl, rfl, hz⟩, rfl, c, s2, rfl, hcc.2.2.2.1, hcc.2.2.2.2⟩
    rw [List.cons_append] at h1 h2 ⊢
    unfold valueJ
    rw [h1, h2, hn]
    simp [hcc, hc]
  · refine ⟨.mk 5 0 t [] [] i, ?_, ⟨rfl, rfl, rfl, rfl, rfl, hz⟩, rfl, 34, s2, rfl, by decide, by decide, by decide⟩
    have := hs i r
    rw [List.cons_append] at this ⊢
    unfold valueJ
    rw [this]
    simp [PJ.andThen_ok]
/-- A name is read. -/
theorem name_read {ks : List Bs} {key tk w1 w2 t2 : Bs} (htk : tk = 34 :: t2) (hx : ∀ i r, textJ i (tk ++ r) = .ok key (i + tk.length) r) (hk : key ∉ ks) (h1 : FillJ w1) (h2 : FillJ w2) {c : UInt8} (hc : stopJ c = true) (i : Nat) (r : Bs) :
    nameJ ks i (tk ++ (w1 ++ 58 :: (w2 ++ c :: r))) = .ok key (i + tk.length + w1.length + 1 + w2.length) (c :: r) := by
  have hh : (tk ++ (w1 ++ 58 :: (w2 ++ c :: r))).head? = some 34 := by rw [htk]; rfl
  unfold nameJ
  rw [if_neg (by rw [hh]; simp), hx, PJ.andThen_ok, if_neg hk, h1.1 0 _ 58 _ (by decide), PJ.andThen_ok]
  simp only [signJ, if_true, PJ.andThen_ok]
  rw [h2.1 0 _ c r hc, PJ.andThen_ok]
/-- A value that is read, and begins with a sign. -/
def ReadJ (vf : Nat → Bs → PJ Js) (n : Nat) (v : Js) (s : Bs) : Prop :=
  (∀ i r, tailJ (r.headD 0) = false → ∃ u, vf i (s ++ r) = .ok u (i + s.length) r ∧ eqJ n v u ∧ u.at_ = i) ∧ ∃ c s2, s = c :: s2 ∧ stopJ c = true ∧ c ≠ 93 ∧ c ≠ 125
theorem tells_head {T : Js → Bs → Prop} {vf : Nat → Bs → PJ Js} {n : Nat} {m : Bool} {l : List Js} {q : List Bs} {s : Bs} (hT : ∀ v s, T v s → ReadJ vf n v s) (h : TellsI T m l q s) : ∃ c s2, s = c :: s2 ∧ stopJ c = true ∧ c ≠ 93 ∧ c ≠ 125 := by
  cases l with
  | nil => exact h.elim
  | cons v vs =>
    obtain ⟨nm, sv, w, tl, k2, rfl, hv, _, hnm, _⟩ := h
    cases m with
    | false =>
      obtain ⟨rfl, _, _⟩ := hnm
      obtain ⟨c, s2, rfl, h1, h2, h3⟩ := (hT v sv hv).2
      exact ⟨c, _, rfl, h1, h2, h3⟩
    | true =>
      obtain ⟨key, tk, w1, w2, _, rfl, _, _, ⟨t2, rfl⟩, _⟩ := hnm
      exact ⟨34, _, rfl, by decide, by decide, by decide⟩
theorem items_read {T : Js → Bs → Prop} {vf : Nat → Bs → PJ Js} {n : Nat} {m : Bool} {e : UInt8} (he : e = if m then 125 else 93) (hT : ∀ v s, T v s → ReadJ vf n v s) :
    ∀ (l : List Js) (q : List Bs) (s : Bs) (k : Nat) (vs : List Js) (ks : List Bs) (i : Nat) (r : Bs), TellsI T m l q s → l.length ≤ k → (ks ++ q).Nodup →
      ∃ l2, itemsJ vf m e k vs ks i (s ++ e :: r) = .ok (vs ++ l2, ks ++ q) (i + s.length + 1) r ∧ l.length = l2.length ∧ ∀ (j : Nat) (u v : Js), l[j]? = some u → l2[j]? = some v → eqJ n u v
  | [], _, _, _, _, _, _, _, h, _, _ => h.elim
  | v :: l, q, s, 0, _, _, _, _, _, h, _ => by simp at h
  | v :: l, q, s, k + 1, vs, ks, i, r, h, hk, hnd => by
    obtain ⟨nm, sv, w, tl, k2, rfl, hv, hw, hnm, htl⟩ := h
    obtain ⟨hread, c, s2, hsv, hc, _, _⟩ := hT v sv hv
    have hes : stopJ e = true ∧ tailJ e = false ∧ e ≠ 44 := by rw [he]; cases m <;> decide
    have htail : tailJ ((w ++ (tl ++ e :: r)).headD 0) = false := hw.2 _ (by
      by_cases hl : l = []
      · rw [if_pos hl] at htl; rw [htl.1]; simpa using hes.2.1
      · rw [if_neg hl] at htl
        obtain ⟨w3, s3, rfl, _, _⟩ := htl
        simp [tailJ, digitJ])
    obtain ⟨ks2, hks, hname⟩ : ∃ ks2, ks ++ q = ks2 ++ k2 ∧ (if m then (nameJ ks i (nm ++ (sv ++ (w ++ tl)) ++ e :: r)).andThen fun x j t => .ok (ks ++ [x]) j t else .ok ks i (nm ++ (sv ++ (w ++ tl)) ++ e :: r) : PJ (List Bs)) = .ok ks2 (i + nm.length) (sv ++ (w ++ (tl ++ e :: r))) := by
      cases m with
      | false =>
        obtain ⟨rfl, rfl, rfl⟩ := hnm
        exact ⟨ks, rfl, by simp⟩
      | true =>
        obtain ⟨key, tk, w1, w2, rfl, rfl, h1, h2, ⟨t2, htk⟩, hx⟩ := hnm
        refine ⟨ks ++ [key], by simp, ?_⟩
        have hkk : key ∉ ks := fun hm => (List.nodup_append.1 hnd).2.2 key hm key (by simp) rfl
        have hr := name_read htk hx hkk h1 h2 hc i (s2 ++ (w ++ (tl ++ e :: r)))
        have es : tk ++ (w1 ++ 58 :: w2) ++ (sv ++ (w ++ tl)) ++ e :: r = tk ++ (w1 ++ 58 :: (w2 ++ c :: (s2 ++ (w ++ (tl ++ e :: r))))) := by rw [hsv]; simp
        rw [es, if_pos rfl, hr, PJ.andThen_ok, hsv]
        simp
        omega
    obtain ⟨u, hu, heq, _⟩ := hread (i + nm.length) _ htail
    rw [itemsJ, hname, PJ.andThen_ok, hu, PJ.andThen_ok]
    by_cases hl : l = []
    · rw [if_pos hl] at htl
      obtain ⟨rfl, rfl⟩ := htl
      subst hl
      refine ⟨[u], ?_, rfl, fun j a b h1 h2 => ?_⟩
      · rw [List.nil_append, hw.1 0 _ e r hes.1, PJ.andThen_ok]
        rw [List.append_nil] at hks
        simp [signJ, PJ.andThen_ok, hes.2.2, hks]
        omega
      · cases j with
        | zero => simp at h1 h2; subst h1; subst h2; exact heq
        | succ j => simp at h1
    · rw [if_neg hl] at htl
      obtain ⟨w3, s3, rfl, hw3, htl⟩ := htl
      obtain ⟨c3, s4, hs3, hc3, _, _⟩ := tells_head hT htl
      obtain ⟨l2, hl2, hlen, hall⟩ := items_read he hT l k2 s3 k (vs ++ [u]) ks2 (i + nm.length + sv.length + w.length + 1 + w3.length) r htl (by simp at hk; omega) (by rw [← hks]; exact hnd)
      refine ⟨u :: l2, ?_, by simp [hlen], fun j a b h1 h2 => ?_⟩
      · rw [List.cons_append, hw.1 0 _ 44 _ (by decide), PJ.andThen_ok, if_pos (show (44 :: (w3 ++ s3 ++ e :: r)).head? = some 44 from rfl)]
        rw [List.tail_cons, List.append_assoc, hs3, List.cons_append, hw3.1 0 _ c3 _ hc3, PJ.andThen_ok, ← List.cons_append, ← hs3, hl2, hks]
        simp
        omega
      · cases j with
        | zero => simp at h1 h2; subst h1; subst h2; exact heq
        | succ j => simp at h1 h2; exact hall j a b h1 h2
theorem value_group (m : Bool) (q i : Nat) (s : Bs) : valueJ (q + 1) i ((if m then 123 else 91) :: s) = (skipJ 0 0 (i + 1) s).andThen fun _ j t =>
    if t.head? = some (if m then 125 else 93) then .ok (.mk (if m then 7 else 6) 0 [] [] [] i) (j + 1) t.tail
    else (itemsJ (valueJ q) m (if m then 125 else 93) (s.length + 2) [] [] j t).andThen fun x j2 t2 => .ok (.mk (if m then 7 else 6) 0 [] x.1 x.2 i) j2 t2 := by
  cases m
  · simp only [Bool.false_eq_true, if_false]; rw [value_list, group_list]; rfl
  · simp only [if_true]; rw [value_map, group_map]; rfl
theorem tellsI_len {T : Js → Bs → Prop} {m : Bool} : ∀ (l : List Js) (q : List Bs) (s : Bs), (∀ v s, T v s → s ≠ []) → TellsI T m l q s → l.length ≤ s.length
  | [], _, _, _, h => h.elim
  | v :: l, q, s, hT, h => by
    obtain ⟨nm, sv, w, tl, k2, rfl, hv, _, _, htl⟩ := h
    have h1 : 0 < sv.length := List.length_pos_iff.2 (hT v sv hv)
    by_cases hl : l = []
    · subst hl; simp; omega
    · rw [if_neg hl] at htl
      obtain ⟨w3, s3, rfl, _, h3⟩ := htl
      have := tellsI_len l k2 s3 hT h3
      simp; omega
/-- What is told is read, whatever stands between its signs. -/
theorem tells_read : ∀ (n room : Nat) (v : Js) (s : Bs), n ≤ room → TellsJ n v s → ReadJ (valueJ room) (n + 1) v s
  | 0, room, v, s, _, h => ⟨fun i r hr => by
      obtain ⟨u, h1, h2, h3, _⟩ := leaf_read h 0 room i r hr
      exact ⟨u, h1, h2, h3⟩, by
      obtain ⟨_, _, _, _, h4⟩ := leaf_read h 0 room 0 [] (by decide)
      exact h4⟩
  | n + 1, 0, v, s, hr, _ => by omega
  | n + 1, room + 1, v, s, hr, h => by
    rcases h with h | ⟨m, l, q, a, w, b, rfl, hw, rfl, hq, hb⟩
    · exact ⟨fun i r hr => by
        obtain ⟨u, h1, h2, h3, _⟩ := leaf_read h (n + 1) (room + 1) i r hr
        exact ⟨u, h1, h2, h3⟩, by
        obtain ⟨_, _, _, _, h4⟩ := leaf_read h 0 (room + 1) 0 [] (by decide)
        exact h4⟩
    · have hT : ∀ v s, TellsJ n v s → ReadJ (valueJ room) (n + 1) v s := fun v s h => tells_read n room v s (by omega) h
      have he : stopJ (if m then 125 else 93) = true := by cases m <;> decide
      refine ⟨fun i r hr => ?_, (if m then 123 else 91), _, rfl, by cases m <;> decide, by cases m <;> decide, by cases m <;> decide⟩
      have es : (if m then (123 : UInt8) else 91) :: (w ++ (b ++ [if m then 125 else 93])) ++ r = (if m then 123 else 91) :: (w ++ (b ++ (if m then 125 else 93) :: r)) := by simp
      rw [es, value_group]
      by_cases hl : l = []
      · rw [if_pos hl] at hb
        obtain ⟨rfl, rfl⟩ := hb
        subst hl
        refine ⟨.mk (if m then 7 else 6) 0 [] [] [] i, ?_, ⟨rfl, rfl, rfl, rfl, rfl, fun i u v h => by simp at h⟩, rfl⟩
        rw [List.nil_append, hw.1 0 _ _ r he, PJ.andThen_ok, if_pos (by rfl)]
        simp
        omega
      · rw [if_neg hl] at hb
        obtain ⟨c, s2, hc, hc1, hc2, hc3⟩ := tells_head hT hb
        have hlen := tellsI_len l q b (fun v s h => by
          obtain ⟨c, s2, rfl, _⟩ := (hT v s h).2
          simp) hb
        obtain ⟨l2, h1, h2, h3⟩ := items_read (e := if m then 125 else 93) rfl hT l q b ((w ++ (b ++ (if m then 125 else 93) :: r)).length + 2) [] [] (i + 1 + w.length) r hb (by simp; omega) (by simpa using hq)
        refine ⟨.mk (if m then 7 else 6) 0 [] l2 q i, ?_, ⟨rfl, rfl, rfl, rfl, h2, h3⟩, rfl⟩
        rw [List.nil_append, List.nil_append] at h1
        have hh : (b ++ (if m then (125 : UInt8) else 93) :: r).head? ≠ some (if m then 125 else 93) := by
          rw [hc]; cases m <;> simp [hc2, hc3]
        have hsk := hw.1 0 (i + 1) c (s2 ++ (if m then 125 else 93) :: r) hc1
        rw [← List.cons_append, ← hc] at hsk
        rw [hsk, PJ.andThen_ok, if_neg hh, h1, PJ.andThen_ok]
        simp
        omega
/-- The whole text: something ahead, a value told, something behind. -/
theorem json_tells {n : Nat} {v : Js} {s w1 w2 : Bs} (hn : n ≤ 64) (h : TellsJ n v s) (h1 : FillJ w1) (h2 : ∀ i, skipJ 0 0 i w2 = .ok () (i + w2.length) []) (h3 : tailJ (w2.headD 0) = false) :
    ∃ u, jsonV (w1 ++ (s ++ w2)) = .ok u ∧ eqJ (n + 1) v u ∧ u.at_ = w1.length := by
  obtain ⟨hr, c, s2, hs, hc, _, _⟩ := tells_read n 64 v s hn h
  obtain ⟨u, hu, he, ha⟩ := hr (0 + w1.length) w2 h3
  refine ⟨u, ?_, he, by omega⟩
  have hsk := h1.1 0 0 c (s2 ++ w2) hc
  rw [← List.cons_append, ← hs] at hsk
  unfold jsonV
  rw [hsk, PJ.andThen_ok, hu, PJ.andThen_ok, h2, PJ.andThen_ok]
  rfl
end Go.Proofs.YtgiihljiekagdaaDoor
