/- Worlds that are as they were but for one block; the library's variables; the reader in memory (package json). -/
import Derived.Test.YtgiihljiekagdaaDoorSb
import Derived.Lib.LaidTab
import Derived.Lib.ItoaNum
import Derived.Shelf.Unicode.DecodeSlow
namespace Go.Proofs.YtgiihljiekagdaaDoor
open Go.ChangeShapes Go.WideShapes Go.RowKit Go.Sort
/-- w' is w but for block R, and what came to it. -/
structure But (R : Nat) (w w' : World) : Prop where
  os : w'.os = w.os
  tape : w'.tape = w.tape
  output : w'.output = w.output
  size : w.heap.size ≤ w'.heap.size
  block : ∀ k, k < w.heap.size → k ≠ R → w'.heap[k]? = w.heap[k]?
theorem But.refl (R : Nat) (w : World) : But R w w := ⟨rfl, rfl, rfl, Nat.le_refl _, fun _ _ _ => rfl⟩
theorem But.trans {R : Nat} {a b c : World} (h : But R a b) (k : But R b c) : But R a c :=
  ⟨k.os.trans h.os, k.tape.trans h.tape, k.output.trans h.output, Nat.le_trans h.size k.size, fun i hi hr => (k.block i (Nat.lt_of_lt_of_le hi h.size) hr).trans (h.block i hi hr)⟩
theorem But.of (R : Nat) {w w' : World} (h : Below w.heap.size w w') : But R w w' := ⟨h.os, h.tape, h.output, h.size, fun k hk _ => h.block k hk⟩
theorem But.alloc {R : Nat} {a w : World} (h : But R a w) (o : Obj) : But R a (w.alloc o) := h.trans (.of R ((Below.refl _ _).alloc (Nat.le_refl _) o))
theorem But.drewN {R : Nat} {a w : World} (h : But R a w) (n : Nat) : But R a (w.drewN n) := h.trans (.of R (bdrew (Below.refl _ _) n))
theorem But.drew {R : Nat} {a w : World} (h : But R a w) : But R a w.drew := h.trans (.of R ((Below.refl _ _).drew))
theorem But.set {R : Nat} {a w : World} (h : But R a w) (o : Nat) (u : Value) : But R a (w.setCell ⟨R, o, none⟩ u) :=
  h.trans ⟨rfl, rfl, rfl, by simp [World.setCell], fun k _ hk => Below.heap_setCell _ _ _ _ hk⟩
theorem But.new {R : Nat} {a w : World} (h : But R a w) {p : Addr} (hp : a.heap.size ≤ p.block) (u : Value) : But R a (w.setCell p u) :=
  ⟨h.os, h.tape, h.output, by simpa [World.setCell] using h.size, fun k hk hr => (Below.heap_setCell _ _ _ _ (by omega)).trans (h.block k hk hr)⟩
theorem But.grown {R : Nat} {a w w' : World} {row : Option Nat} (h : But R a w) (hg : w.grownBy w' row) (hr : ∀ k, row = some k → a.heap.size ≤ k) : But R a w' :=
  ⟨hg.os.trans h.os, hg.tape.trans h.tape, hg.output.trans h.output, Nat.le_trans h.size hg.size, fun k hk hn => (hg.block k (Nat.lt_of_lt_of_le hk h.size) (fun e => by have := hr k e.symm; omega)).trans (h.block k hk hn)⟩
theorem But.cell {R : Nat} {w w' : World} (h : But R w w') {p : Addr} (hp : p.block < w.heap.size) (hr : p.block ≠ R) : w'.cell? p = w.cell? p := World.cell?_of_block (w := w) (h.block p.block hp hr)
theorem But.frozen {R : Nat} {w w' : World} (h : But R w w') {p : Addr} (hp : p.block < w.heap.size) (hr : p.block ≠ R) : w'.frozen? p = w.frozen? p := World.frozen?_of_block (w := w) (h.block p.block hp hr)
theorem But.below {R B : Nat} {w w' : World} (h : But R w w') (h1 : B ≤ w.heap.size) (h2 : B ≤ R) : Below B w w' := ⟨h.os, h.tape, h.output, h.size, fun k hk => h.block k (by omega) (by omega)⟩
theorem But.keep {R : Nat} {w w' : World} (h : But R w w') (b : Nat) (hb : b < w.heap.size) (hr : b ≠ R) : (∀ o, w'.cell? ⟨b, o, none⟩ = w.cell? ⟨b, o, none⟩) ∧ (∀ o, w'.frozen? ⟨b, o, none⟩ = w.frozen? ⟨b, o, none⟩) ∧ b < w'.heap.size :=
  ⟨fun o => h.cell (p := ⟨b, o, none⟩) hb hr, fun o => h.frozen (p := ⟨b, o, none⟩) hb hr, Nat.lt_of_lt_of_le hb h.size⟩
/-- An error variable holds nothing, or a value of some type. -/
def ErrIs (w : World) (g : Nat) : Prop := ∃ ev, w.cell? ⟨g, 0, none⟩ = some ev ∧ (ev = .nilIface ∨ ∃ te pe, ev = .iface te pe)
/-- What the library's variables hold. -/
structure Gl (w : World) : Prop where
  ml : ∃ m : Int, w.cell? ⟨0, 0, none⟩ = some (.int .i64 m)
  es : ErrIs w 1
  er : ErrIs w 2
  p10 : Lib.TabIs Tryd.prog w "internal/strconv.uint64pow10" .u64 Lib.pow10Tab
  utf : Lib.Utf8Tabs 4 5 w
  lt : 8 ≤ w.heap.size
theorem gPow : Tryd.prog.globalNamed "internal/strconv.uint64pow10" = some 3 := by kernel_rfl
theorem Gl.keep {w w' : World} (h : Gl w) (hb : Below 8 w w') : Gl w' := by
  obtain ⟨⟨m, h0⟩, ⟨ev, h1, h2⟩, ⟨ev', h3, h4⟩, hp, ⟨hu, hv⟩, hl⟩ := h
  refine ⟨⟨m, ?_⟩, ⟨ev, ?_, h2⟩, ⟨ev', ?_, h4⟩, ?_, ⟨fun c hc => ?_, fun i hi => ⟨?_, ?_⟩⟩, Nat.le_trans hl hb.size⟩
  · rw [hb.cell (p := ⟨0, 0, none⟩) (by decide)]; exact h0
  · rw [hb.cell (p := ⟨1, 0, none⟩) (by decide)]; exact h1
  · rw [hb.cell (p := ⟨2, 0, none⟩) (by decide)]; exact h3
  · unfold Lib.TabIs World.var? at hp ⊢
    rw [gPow] at hp ⊢
    simp only [Option.bind_some] at hp ⊢
    rw [hb.block 3 (by decide)]
    exact hp
  · rw [hb.cell (p := ⟨4, c, none⟩) (show 4 < 8 by decide)]; exact hu c hc
  · rw [hb.cell (p := ⟨5, _, none⟩) (show 5 < 8 by decide)]; exact (hv i hi).1
  · rw [hb.cell (p := ⟨5, _, none⟩) (show 5 < 8 by decide)]; exact (hv i hi).2
theorem Gl.below {w w' : World} (h : Gl w) (hb : Below w.heap.size w w') : Gl w' := h.keep (hb.mono h.lt)
theorem Gl.but {R : Nat} {w w' : World} (h : Gl w) (hb : But R w w') (hR : 8 ≤ R) : Gl w' := h.keep (hb.below h.lt hR)
/-- What a reader's text is, and where it and the reader lie. -/
structure Src (l : Bs) (b o c R : Nat) (w : World) : Prop where
  bytes : BytesAt w (some ⟨b, o, none⟩) l
  cap : l.length ≤ c
  small : l.length ≤ 1000000
  far : b ≠ R
  hR : 8 ≤ R
  ltb : b < w.heap.size
  gl : Gl w
/-- The reader's cells: the text, the place, what is wrong. -/
structure Rd (n b o c R : Nat) (w : World) (i : Nat) (k a : Int) : Prop where
  c0 : w.cell? ⟨R, 0, none⟩ = some (.slice (some ⟨b, o, none⟩) n c)
  c1 : w.cell? ⟨R, 1, none⟩ = some (.int .i64 (i : Int))
  c2 : w.cell? ⟨R, 2, none⟩ = some (.int .i64 k)
  c3 : w.cell? ⟨R, 3, none⟩ = some (.int .i64 a)
  fz : ∀ o, w.frozen? ⟨R, o, none⟩ = false
  lt : R < w.heap.size
theorem Src.but {l : Bs} {b o c R : Nat} {w w' : World} (h : Src l b o c R w) (hb : But R w w') : Src l b o c R w' := by
  refine ⟨fun j x hj => ?_, h.cap, h.small, h.far, h.hR, Nat.lt_of_lt_of_le h.ltb hb.size, h.gl.but hb h.hR⟩
  obtain ⟨ad, e, h1, h2⟩ := h.bytes j x hj
  cases e
  exact ⟨_, rfl, Nat.lt_of_lt_of_le h1 hb.size, (hb.cell (p := Addr.add ⟨b, o, none⟩ j) (by rw [add_block]; exact h1) (by rw [add_block]; exact h.far)).trans h2⟩
theorem Src.below {l : Bs} {b o c R : Nat} {w w' : World} (h : Src l b o c R w) (hb : Below w.heap.size w w') : Src l b o c R w' := h.but (.of R hb)
theorem Rd.below {n b o c R : Nat} {w w' : World} {i : Nat} {k a : Int} (h : Rd n b o c R w i k a) (hb : Below w.heap.size w w') : Rd n b o c R w' i k a := by
  obtain ⟨k1, f, m⟩ := keepf hb R h.lt
  exact ⟨(k1 0).trans h.c0, (k1 1).trans h.c1, (k1 2).trans h.c2, (k1 3).trans h.c3, fun o => (f o).trans (h.fz o), m⟩
theorem Rd.at_ {n b o c R : Nat} {w : World} {i : Nat} {k a : Int} (h : Rd n b o c R w i k a) (j : Nat) : Rd n b o c R (w.setCell ⟨R, 1, none⟩ (.int .i64 (j : Int))) j k a :=
  ⟨(World.cell?_setCell_other _ _ _ _ (by simp)).trans h.c0, World.cell?_setCell_same _ _ _ h.c1, (World.cell?_setCell_other _ _ _ _ (by simp)).trans h.c2, (World.cell?_setCell_other _ _ _ _ (by simp)).trans h.c3,
    fun o => (World.frozen?_setCell _ _ _ _).trans (h.fz o), by simpa [World.setCell] using h.lt⟩
theorem Rd.err {n b o c R : Nat} {w : World} {i : Nat} {k a : Int} (h : Rd n b o c R w i k a) (q x : Int) : Rd n b o c R ((w.setCell ⟨R, 2, none⟩ (.int .i64 q)).setCell ⟨R, 3, none⟩ (.int .i64 x)) i q x := by
  have e2 : (w.setCell ⟨R, 2, none⟩ (.int .i64 q)).cell? ⟨R, 2, none⟩ = some (.int .i64 q) := World.cell?_setCell_same _ _ _ h.c2
  have e3 : (w.setCell ⟨R, 2, none⟩ (.int .i64 q)).cell? ⟨R, 3, none⟩ = some (.int .i64 a) := (World.cell?_setCell_other _ _ _ _ (by simp)).trans h.c3
  refine ⟨?_, ?_, ?_, World.cell?_setCell_same _ _ _ e3, fun o => ?_, by simpa [World.setCell] using h.lt⟩
  · exact ((World.cell?_setCell_other _ _ _ _ (by simp)).trans (World.cell?_setCell_other _ _ _ _ (by simp))).trans h.c0
  · exact ((World.cell?_setCell_other _ _ _ _ (by simp)).trans (World.cell?_setCell_other _ _ _ _ (by simp))).trans h.c1
  · exact (World.cell?_setCell_other _ _ _ _ (by simp)).trans e2
  · exact ((World.frozen?_setCell _ _ _ _).trans (World.frozen?_setCell _ _ _ _)).trans (h.fz o)
def intN : Value → Nat
  | .int _ i => (i + 1).toNat
  | _ => 0
def intCell (w : World) (a : Addr) : Int := match w.cell? a with
  | some (.int _ n) => n
  | _ => 0
theorem Rd.ic {n b o c R : Nat} {w : World} {i : Nat} {k a : Int} (h : Rd n b o c R w i k a) : intCell w ⟨R, 1, none⟩ = (i : Int) := by unfold intCell; rw [h.c1]
theorem Src.byte {l : Bs} {b o c R : Nat} {w : World} (h : Src l b o c R w) {j : Nat} {x : UInt8} (hx : l[j]? = some x) : w.cell? ⟨b, o + j, none⟩ = some (.int .u8 (x.toNat : Int)) := by
  obtain ⟨ad, e, _, h2⟩ := h.bytes j x hx
  cases e
  have : Addr.add ⟨b, o, none⟩ j = ⟨b, o + j, none⟩ := by unfold Addr.add; split <;> simp_all
  rwa [this] at h2
end Go.Proofs.YtgiihljiekagdaaDoor
