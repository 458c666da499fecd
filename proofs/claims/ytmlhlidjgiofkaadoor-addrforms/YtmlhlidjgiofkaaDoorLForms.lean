/- AddrForms: whichever row of texts is asked for, the law answers true. -/
import Derived.Test.YtmlhlidjgiofkaaDoorLNext
namespace Go.Proofs.YtmlhlidjgiofkaaDoor
open Go.ChangeShapes Go.WideShapes Go.RowKit Go.Sort

/-- The rows, by hand: a text, and how the address that it is is told (nothing, where it is none). -/
def rows2 : List (Bs × Bs) := [([48, 46, 48, 46, 48, 46, 48], [48, 46, 48, 46, 48, 46, 48]), ([50, 53, 53, 46, 50, 53, 53, 46, 50, 53, 53, 46, 50, 53, 53], [50, 53, 53, 46, 50, 53, 53, 46, 50, 53, 53, 46, 50, 53, 53]), ([50, 53, 54, 46, 48, 46, 48, 46, 48], []), ([49, 46, 50, 46, 51], []), ([49, 46, 50, 46, 51, 46, 52, 46, 53], []), ([48, 49, 46, 50, 46, 51, 46, 52], []), ([49, 46, 50, 46, 51, 46], []), ([32, 49, 46, 50, 46, 51, 46, 52], []), ([58, 58], [58, 58]), ([58, 58, 49], [58, 58, 49]), ([49, 58, 58], [49, 58, 58]), ([48, 58, 48, 58, 48, 58, 48, 58, 48, 58, 48, 58, 48, 58, 48], [58, 58]), ([49, 58, 48, 58, 48, 58, 50, 58, 48, 58, 48, 58, 48, 58, 51], [49, 58, 48, 58, 48, 58, 50, 58, 58, 51]), ([49, 58, 48, 58, 48, 58, 50, 58, 51, 58, 48, 58, 48, 58, 52], [49, 58, 58, 50, 58, 51, 58, 48, 58, 48, 58, 52]), ([49, 58, 48, 58, 50, 58, 51, 58, 52, 58, 53, 58, 54, 58, 55], [49, 58, 48, 58, 50, 58, 51, 58, 52, 58, 53, 58, 54, 58, 55]), ([50, 48, 48, 49, 58, 68, 66, 56, 58, 58, 48, 48, 65, 49], [50, 48, 48, 49, 58, 100, 98, 56, 58, 58, 97, 49]), ([58, 58, 102, 102, 102, 102, 58, 49, 46, 50, 46, 51, 46, 52], [58, 58, 102, 102, 102, 102, 58, 49, 48, 50, 58, 51, 48, 52]), ([49, 58, 50, 58, 51, 58, 52, 58, 53, 58, 54, 58, 49, 46, 50, 46, 51, 46, 52], [49, 58, 50, 58, 51, 58, 52, 58, 53, 58, 54, 58, 49, 48, 50, 58, 51, 48, 52]), ([49, 46, 50, 46, 51, 46, 52, 58, 58], []), ([49, 58, 50, 58, 51, 58, 52, 58, 53, 58, 54, 58, 55], []), ([49, 58, 50, 58, 51, 58, 52, 58, 53, 58, 54, 58, 55, 58, 56, 58, 57], []), ([49, 58, 50, 58, 51, 58, 52, 58, 53, 58, 54, 58, 55, 58, 58, 56], []), ([49, 58, 50, 58, 51, 58, 52, 58, 53, 58, 54, 58, 55, 58, 58], [49, 58, 50, 58, 51, 58, 52, 58, 53, 58, 54, 58, 55, 58, 48]), ([58, 58, 50, 58, 51, 58, 52, 58, 53, 58, 54, 58, 55, 58, 56], [48, 58, 50, 58, 51, 58, 52, 58, 53, 58, 54, 58, 55, 58, 56]), ([58, 58, 58], []), ([58, 58, 49, 58, 58], []), ([49, 50, 51, 52, 53, 58, 58], []), ([103, 58, 58], []), ([58, 49, 58, 50, 58, 51, 58, 52, 58, 53, 58, 54, 58, 55], []), ([49, 58, 50, 58, 51, 58, 52, 58, 53, 58, 54, 58, 55, 58], []), ([], []), ([58, 58, 49, 37, 97], []), ([58, 58, 49, 46, 50, 46, 51], [])]
def okRow (p : Bs × Bs) : Bool := decide (p.1.length < 100) && match parseV p.1 with
  | some (v, x) => decide (tellV v x = p.2) && decide (p.2 ≠ [])
  | none => decide (p.2 = [])
theorem rows_ok : rows2.all okRow = true := by decide +kernel
/-- The cells of the rows. -/
def cells2 : List Value := [.string ⟨#[48, 46, 48, 46, 48, 46, 48]⟩, .string ⟨#[48, 46, 48, 46, 48, 46, 48]⟩, .string ⟨#[50, 53, 53, 46, 50, 53, 53, 46, 50, 53, 53, 46, 50, 53, 53]⟩, .string ⟨#[50, 53, 53, 46, 50, 53, 53, 46, 50, 53, 53, 46, 50, 53, 53]⟩, .string ⟨#[50, 53, 54, 46, 48, 46, 48, 46, 48]⟩, .string ⟨#[]⟩, .string ⟨#[49, 46, 50, 46, 51]⟩, .string ⟨#[]⟩, .string ⟨#[49, 46, 50, 46, 51, 46, 52, 46, 53]⟩, .string ⟨#[]⟩, .string ⟨#[48, 49, 46, 50, 46, 51, 46, 52]⟩, .string ⟨#[]⟩, .string ⟨#[49, 46, 50, 46, 51, 46]⟩, .string ⟨#[]⟩, .string ⟨#[32, 49, 46, 50, 46, 51, 46, 52]⟩, .string ⟨#[]⟩, .string ⟨#[58, 58]⟩, .string ⟨#[58, 58]⟩, .string ⟨#[58, 58, 49]⟩, .string ⟨#[58, 58, 49]⟩, .string ⟨#[49, 58, 58]⟩, .string ⟨#[49, 58, 58]⟩, .string ⟨#[48, 58, 48, 58, 48, 58, 48, 58, 48, 58, 48, 58, 48, 58, 48]⟩, .string ⟨#[58, 58]⟩, .string ⟨#[49, 58, 48, 58, 48, 58, 50, 58, 48, 58, 48, 58, 48, 58, 51]⟩, .string ⟨#[49, 58, 48, 58, 48, 58, 50, 58, 58, 51]⟩, .string ⟨#[49, 58, 48, 58, 48, 58, 50, 58, 51, 58, 48, 58, 48, 58, 52]⟩, .string ⟨#[49, 58, 58, 50, 58, 51, 58, 48, 58, 48, 58, 52]⟩, .string ⟨#[49, 58, 48, 58, 50, 58, 51, 58, 52, 58, 53, 58, 54, 58, 55]⟩, .string ⟨#[49, 58, 48, 58, 50, 58, 51, 58, 52, 58, 53, 58, 54, 58, 55]⟩, .string ⟨#[50, 48, 48, 49, 58, 68, 66, 56, 58, 58, 48, 48, 65, 49]⟩, .string ⟨#[50, 48, 48, 49, 58, 100, 98, 56, 58, 58, 97, 49]⟩, .string ⟨#[58, 58, 102, 102, 102, 102, 58, 49, 46, 50, 46, 51, 46, 52]⟩, .string ⟨#[58, 58, 102, 102, 102, 102, 58, 49, 48, 50, 58, 51, 48, 52]⟩, .string ⟨#[49, 58, 50, 58, 51, 58, 52, 58, 53, 58, 54, 58, 49, 46, 50, 46, 51, 46, 52]⟩, .string ⟨#[49, 58, 50, 58, 51, 58, 52, 58, 53, 58, 54, 58, 49, 48, 50, 58, 51, 48, 52]⟩, .string ⟨#[49, 46, 50, 46, 51, 46, 52, 58, 58]⟩, .string ⟨#[]⟩, .string ⟨#[49, 58, 50, 58, 51, 58, 52, 58, 53, 58, 54, 58, 55]⟩, .string ⟨#[]⟩, .string ⟨#[49, 58, 50, 58, 51, 58, 52, 58, 53, 58, 54, 58, 55, 58, 56, 58, 57]⟩, .string ⟨#[]⟩, .string ⟨#[49, 58, 50, 58, 51, 58, 52, 58, 53, 58, 54, 58, 55, 58, 58, 56]⟩, .string ⟨#[]⟩, .string ⟨#[49, 58, 50, 58, 51, 58, 52, 58, 53, 58, 54, 58, 55, 58, 58]⟩, .string ⟨#[49, 58, 50, 58, 51, 58, 52, 58, 53, 58, 54, 58, 55, 58, 48]⟩, .string ⟨#[58, 58, 50, 58, 51, 58, 52, 58, 53, 58, 54, 58, 55, 58, 56]⟩, .string ⟨#[48, 58, 50, 58, 51, 58, 52, 58, 53, 58, 54, 58, 55, 58, 56]⟩, .string ⟨#[58, 58, 58]⟩, .string ⟨#[]⟩, .string ⟨#[58, 58, 49, 58, 58]⟩, .string ⟨#[]⟩, .string ⟨#[49, 50, 51, 52, 53, 58, 58]⟩, .string ⟨#[]⟩, .string ⟨#[103, 58, 58]⟩, .string ⟨#[]⟩, .string ⟨#[58, 49, 58, 50, 58, 51, 58, 52, 58, 53, 58, 54, 58, 55]⟩, .string ⟨#[]⟩, .string ⟨#[49, 58, 50, 58, 51, 58, 52, 58, 53, 58, 54, 58, 55, 58]⟩, .string ⟨#[]⟩, .string ⟨#[]⟩, .string ⟨#[]⟩, .string ⟨#[58, 58, 49, 37, 97]⟩, .string ⟨#[]⟩, .string ⟨#[58, 58, 49, 46, 50, 46, 51]⟩, .string ⟨#[]⟩]
theorem cells_at : ∀ k, k < 33 → cells2[k * 2]? = some (.string (baS (rows2.getD k ([], [])).1)) ∧ cells2[k * 2 + 1]? = some (.string (baS (rows2.getD k ([], [])).2)) := by
  intro k hk
  rcases (show k = 0 ∨ k = 1 ∨ k = 2 ∨ k = 3 ∨ k = 4 ∨ k = 5 ∨ k = 6 ∨ k = 7 ∨ k = 8 ∨ k = 9 ∨ k = 10 ∨ k = 11 ∨ k = 12 ∨ k = 13 ∨ k = 14 ∨ k = 15 ∨ k = 16 ∨ k = 17 ∨ k = 18 ∨ k = 19 ∨ k = 20 ∨ k = 21 ∨ k = 22 ∨ k = 23 ∨ k = 24 ∨ k = 25 ∨ k = 26 ∨ k = 27 ∨ k = 28 ∨ k = 29 ∨ k = 30 ∨ k = 31 ∨ k = 32 by omega) with rfl | rfl | rfl | rfl | rfl | rfl | rfl | rfl | rfl | rfl | rfl | rfl | rfl | rfl | rfl | rfl | rfl | rfl | rfl | rfl | rfl | rfl | rfl | rfl | rfl | rfl | rfl | rfl | rfl | rfl | rfl | rfl | rfl <;> exact ⟨rfl, rfl⟩
theorem print_zero (w : World) (hg : Gl w) :
    Calls Tryd.prog 7 #[.agg #[.int .i64 0, .int .u64 0, .int .u64 0]] w fun e w' => e = .returned (.string ⟨#[]⟩) ∧ Below w.heap.size w w' := print_x 0 0 w hg (by decide)
theorem ne_list {t : Bs} (h : t ≠ []) : (baS t).toList.isEmpty = false := by
  rw [← decide_eq_emptyBytes]
  exact decide_eq_false (fun e => h (by have := congrArg (fun b : ByteArray => b.data.toList) e; simpa [baS] using this))
set_option maxHeartbeats 4000000 in
set_option maxRecDepth 100000 in
theorem forms_k (n : Int) (k : Nat) (s t : Bs) (w : World) (hg : Gl w) (hk : k < 33) (hn : (bits BinOp.and IntKind.i64 n 255).tmod 33 = (k : Int)) (h1 : ([.string ⟨#[48, 46, 48, 46, 48, 46, 48]⟩, .string ⟨#[48, 46, 48, 46, 48, 46, 48]⟩, .string ⟨#[50, 53, 53, 46, 50, 53, 53, 46, 50, 53, 53, 46, 50, 53, 53]⟩, .string ⟨#[50, 53, 53, 46, 50, 53, 53, 46, 50, 53, 53, 46, 50, 53, 53]⟩, .string ⟨#[50, 53, 54, 46, 48, 46, 48, 46, 48]⟩, .string ⟨#[]⟩, .string ⟨#[49, 46, 50, 46, 51]⟩, .string ⟨#[]⟩, .string ⟨#[49, 46, 50, 46, 51, 46, 52, 46, 53]⟩, .string ⟨#[]⟩, .string ⟨#[48, 49, 46, 50, 46, 51, 46, 52]⟩, .string ⟨#[]⟩, .string ⟨#[49, 46, 50, 46, 51, 46]⟩, .string ⟨#[]⟩, .string ⟨#[32, 49, 46, 50, 46, 51, 46, 52]⟩, .string ⟨#[]⟩, .string ⟨#[58, 58]⟩, .string ⟨#[58, 58]⟩, .string ⟨#[58, 58, 49]⟩, .string ⟨#[58, 58, 49]⟩, .string ⟨#[49, 58, 58]⟩, .string ⟨#[49, 58, 58]⟩, .string ⟨#[48, 58, 48, 58, 48, 58, 48, 58, 48, 58, 48, 58, 48, 58, 48]⟩, .string ⟨#[58, 58]⟩, .string ⟨#[49, 58, 48, 58, 48, 58, 50, 58, 48, 58, 48, 58, 48, 58, 51]⟩, .string ⟨#[49, 58, 48, 58, 48, 58, 50, 58, 58, 51]⟩, .string ⟨#[49, 58, 48, 58, 48, 58, 50, 58, 51, 58, 48, 58, 48, 58, 52]⟩, .string ⟨#[49, 58, 58, 50, 58, 51, 58, 48, 58, 48, 58, 52]⟩, .string ⟨#[49, 58, 48, 58, 50, 58, 51, 58, 52, 58, 53, 58, 54, 58, 55]⟩, .string ⟨#[49, 58, 48, 58, 50, 58, 51, 58, 52, 58, 53, 58, 54, 58, 55]⟩, .string ⟨#[50, 48, 48, 49, 58, 68, 66, 56, 58, 58, 48, 48, 65, 49]⟩, .string ⟨#[50, 48, 48, 49, 58, 100, 98, 56, 58, 58, 97, 49]⟩, .string ⟨#[58, 58, 102, 102, 102, 102, 58, 49, 46, 50, 46, 51, 46, 52]⟩, .string ⟨#[58, 58, 102, 102, 102, 102, 58, 49, 48, 50, 58, 51, 48, 52]⟩, .string ⟨#[49, 58, 50, 58, 51, 58, 52, 58, 53, 58, 54, 58, 49, 46, 50, 46, 51, 46, 52]⟩, .string ⟨#[49, 58, 50, 58, 51, 58, 52, 58, 53, 58, 54, 58, 49, 48, 50, 58, 51, 48, 52]⟩, .string ⟨#[49, 46, 50, 46, 51, 46, 52, 58, 58]⟩, .string ⟨#[]⟩, .string ⟨#[49, 58, 50, 58, 51, 58, 52, 58, 53, 58, 54, 58, 55]⟩, .string ⟨#[]⟩, .string ⟨#[49, 58, 50, 58, 51, 58, 52, 58, 53, 58, 54, 58, 55, 58, 56, 58, 57]⟩, .string ⟨#[]⟩, .string ⟨#[49, 58, 50, 58, 51, 58, 52, 58, 53, 58, 54, 58, 55, 58, 58, 56]⟩, .string ⟨#[]⟩, .string ⟨#[49, 58, 50, 58, 51, 58, 52, 58, 53, 58, 54, 58, 55, 58, 58]⟩, .string ⟨#[49, 58, 50, 58, 51, 58, 52, 58, 53, 58, 54, 58, 55, 58, 48]⟩, .string ⟨#[58, 58, 50, 58, 51, 58, 52, 58, 53, 58, 54, 58, 55, 58, 56]⟩, .string ⟨#[48, 58, 50, 58, 51, 58, 52, 58, 53, 58, 54, 58, 55, 58, 56]⟩, .string ⟨#[58, 58, 58]⟩, .string ⟨#[]⟩, .string ⟨#[58, 58, 49, 58, 58]⟩, .string ⟨#[]⟩, .string ⟨#[49, 50, 51, 52, 53, 58, 58]⟩, .string ⟨#[]⟩, .string ⟨#[103, 58, 58]⟩, .string ⟨#[]⟩, .string ⟨#[58, 49, 58, 50, 58, 51, 58, 52, 58, 53, 58, 54, 58, 55]⟩, .string ⟨#[]⟩, .string ⟨#[49, 58, 50, 58, 51, 58, 52, 58, 53, 58, 54, 58, 55, 58]⟩, .string ⟨#[]⟩, .string ⟨#[]⟩, .string ⟨#[]⟩, .string ⟨#[58, 58, 49, 37, 97]⟩, .string ⟨#[]⟩, .string ⟨#[58, 58, 49, 46, 50, 46, 51]⟩, .string ⟨#[]⟩] : List Value)[k * 2]? = some (.string (baS s))) (h2 : ([.string ⟨#[48, 46, 48, 46, 48, 46, 48]⟩, .string ⟨#[48, 46, 48, 46, 48, 46, 48]⟩, .string ⟨#[50, 53, 53, 46, 50, 53, 53, 46, 50, 53, 53, 46, 50, 53, 53]⟩, .string ⟨#[50, 53, 53, 46, 50, 53, 53, 46, 50, 53, 53, 46, 50, 53, 53]⟩, .string ⟨#[50, 53, 54, 46, 48, 46, 48, 46, 48]⟩, .string ⟨#[]⟩, .string ⟨#[49, 46, 50, 46, 51]⟩, .string ⟨#[]⟩, .string ⟨#[49, 46, 50, 46, 51, 46, 52, 46, 53]⟩, .string ⟨#[]⟩, .string ⟨#[48, 49, 46, 50, 46, 51, 46, 52]⟩, .string ⟨#[]⟩, .string ⟨#[49, 46, 50, 46, 51, 46]⟩, .string ⟨#[]⟩, .string ⟨#[32, 49, 46, 50, 46, 51, 46, 52]⟩, .string ⟨#[]⟩, .string ⟨#[58, 58]⟩, .string ⟨#[58, 58]⟩, .string ⟨#[58, 58, 49]⟩, .string ⟨#[58, 58, 49]⟩, .string ⟨#[49, 58, 58]⟩, .string ⟨#[49, 58, 58]⟩, .string ⟨#[48, 58, 48, 58, 48, 58, 48, 58, 48, 58, 48, 58, 48, 58, 48]⟩, .string ⟨#[58, 58]⟩, .string ⟨#[49, 58, 48, 58, 48, 58, 50, 58, 48, 58, 48, 58, 48, 58, 51]⟩, .string ⟨#[49, 58, 48, 58, 48, 58, 50, 58, 58, 51]⟩, .string ⟨#[49, 58, 48, 58, 48, 58, 50, 58, 51, 58, 48, 58, 48, 58, 52]⟩, .string ⟨#[49, 58, 58, 50, 58, 51, 58, 48, 58, 48, 58, 52]⟩, .string ⟨#[49, 58, 48, 58, 50, 58, 51, 58, 52, 58, 53, 58, 54, 58, 55]⟩, .string ⟨#[49, 58, 48, 58, 50, 58, 51, 58, 52, 58, 53, 58, 54, 58, 55]⟩, .string ⟨#[50, 48, 48, 49, 58, 68, 66, 56, 58, 58, 48, 48, 65, 49]⟩, .string ⟨#[50, 48, 48, 49, 58, 100, 98, 56, 58, 58, 97, 49]⟩, .string ⟨#[58, 58, 102, 102, 102, 102, 58, 49, 46, 50, 46, 51, 46, 52]⟩, .string ⟨#[58, 58, 102, 102, 102, 102, 58, 49, 48, 50, 58, 51, 48, 52]⟩, .string ⟨#[49, 58, 50, 58, 51, 58, 52, 58, 53, 58, 54, 58, 49, 46, 50, 46, 51, 46, 52]⟩, .string ⟨#[49, 58, 50, 58, 51, 58, 52, 58, 53, 58, 54, 58, 49, 48, 50, 58, 51, 48, 52]⟩, .string ⟨#[49, 46, 50, 46, 51, 46, 52, 58, 58]⟩, .string ⟨#[]⟩, .string ⟨#[49, 58, 50, 58, 51, 58, 52, 58, 53, 58, 54, 58, 55]⟩, .string ⟨#[]⟩, .string ⟨#[49, 58, 50, 58, 51, 58, 52, 58, 53, 58, 54, 58, 55, 58, 56, 58, 57]⟩, .string ⟨#[]⟩, .string ⟨#[49, 58, 50, 58, 51, 58, 52, 58, 53, 58, 54, 58, 55, 58, 58, 56]⟩, .string ⟨#[]⟩, .string ⟨#[49, 58, 50, 58, 51, 58, 52, 58, 53, 58, 54, 58, 55, 58, 58]⟩, .string ⟨#[49, 58, 50, 58, 51, 58, 52, 58, 53, 58, 54, 58, 55, 58, 48]⟩, .string ⟨#[58, 58, 50, 58, 51, 58, 52, 58, 53, 58, 54, 58, 55, 58, 56]⟩, .string ⟨#[48, 58, 50, 58, 51, 58, 52, 58, 53, 58, 54, 58, 55, 58, 56]⟩, .string ⟨#[58, 58, 58]⟩, .string ⟨#[]⟩, .string ⟨#[58, 58, 49, 58, 58]⟩, .string ⟨#[]⟩, .string ⟨#[49, 50, 51, 52, 53, 58, 58]⟩, .string ⟨#[]⟩, .string ⟨#[103, 58, 58]⟩, .string ⟨#[]⟩, .string ⟨#[58, 49, 58, 50, 58, 51, 58, 52, 58, 53, 58, 54, 58, 55]⟩, .string ⟨#[]⟩, .string ⟨#[49, 58, 50, 58, 51, 58, 52, 58, 53, 58, 54, 58, 55, 58]⟩, .string ⟨#[]⟩, .string ⟨#[]⟩, .string ⟨#[]⟩, .string ⟨#[58, 58, 49, 37, 97]⟩, .string ⟨#[]⟩, .string ⟨#[58, 58, 49, 46, 50, 46, 51]⟩, .string ⟨#[]⟩] : List Value)[k * 2 + 1]? = some (.string (baS t))) (ho : okRow (s, t) = true) :
    Calls Tryd.prog 3 #[.int .i64 n] w fun e w' => e = .returned (.bool true) ∧ Below w.heap.size w w' := by
  have HG := Lib.hid hg
  have hk0 : (0 : Int) ≤ k := by omega
  have hk1 : (k : Int) < 33 := by omega
  simp only [okRow, Bool.and_eq_true, decide_eq_true_eq] at ho
  obtain ⟨hs, ho⟩ := ho
  have HS : Hid ((baS s).size < 4294967281) := by show s.length < _; omega
  clear hg hs
  go_enter Tryd.func3, Tryd.ntmps3
  go_wp2_with fail
  clear h1 h2 hn hk0 hk1 hk
  cases hp : parseV s with
  | some r =>
    obtain ⟨v, x⟩ := r
    rw [hp] at ho
    simp only [Bool.and_eq_true, decide_eq_true_eq] at ho
    have hx := parseV_ok hp
    have HP := Lib.hid hp
    have HT := Lib.hid (And.intro ho.1 hx.2.1)
    have hne := ne_list ho.2
    clear hp ho hx
    refine (parse_some (baS s) v x _ ((HG.out.alloc _).alloc _) HS.out HP.out).mono ?_
    rintro e w1 ⟨rfl, hb1⟩
    obtain ⟨k1, l1⟩ := keep hb1 (w.heap.size + 1) (by simp)
    have c1 : w1.cell? ⟨w.heap.size + 1, 1, none⟩ = some (.string (baS t)) := by rw [k1 1]; simp [go_sem]
    have B1 := below_next (ball (ball (Below.refl _ _))) hb1
    clear k1 hb1
    go_wp2_with fail
    have A1 := ad_new w1 v x
    have BW := ball (o := .cells #[.int .i64 v, .int .u64 (hiQ x), .int .u64 (loQ x)] 28) B1
    have GW := HG.out.below BW
    have c1' : (w1.alloc (.cells #[.int .i64 v, .int .u64 (hiQ x), .int .u64 (loQ x)] 28)).cell? ⟨w.heap.size + 1, 1, none⟩ = some (.string (baS t)) := by rw [World.cell?_alloc_past _ _ _ l1]; exact c1
    obtain ⟨W, hW⟩ : ∃ W, W = w1.alloc (.cells #[.int .i64 v, .int .u64 (hiQ x), .int .u64 (loQ x)] 28) := ⟨_, rfl⟩
    rw [← hW] at A1 BW GW c1' ⊢
    clear hW c1 B1
    have a0 := cell_regrown A1.c0; have a1 := cell_regrown A1.c1; have a2 := cell_regrown A1.c2; have d1 := cell_regrown c1'
    refine wp_region_quiet_below (by kernel_rfl) (by kernel_rfl) ?_
    repeat (go_big_quiet_step (fail))
    go_big_quiet_step ((go_at_call 7; exact Calls.regrown_of (print_is v x _ (GW.below (below_regrown W _ _)) HT.out.2 (baS t) (by rw [HT.out.1]))))
    repeat (go_big_quiet_step (fail))
    go_big_quiet_step ((go_at_call 8; exact Calls.regrown_of (awake_x _ (GW.below (below_regrown W _ _)))))
    repeat (go_big_quiet_step (fail))
    refine wpQuiet_nil ?_
    intro _ hw'
    obtain ⟨⟨dq, osq⟩, hw''⟩ := hw'
    subst hw''
    go_wp2
    go_ret
    exact ⟨rfl, below_next BW (below_regrown W dq osq)⟩
  | none =>
    rw [hp] at ho
    simp only [decide_eq_true_eq] at ho
    subst ho
    have HP := Lib.hid hp
    have hb0 : baS [] = ⟨#[]⟩ := rfl
    clear hp
    rw [hb0]
    refine (parse_none (baS s) _ ((HG.out.alloc _).alloc _) HS.out HP.out).mono ?_
    rintro e w1 ⟨rfl, hb1⟩
    obtain ⟨k1, l1⟩ := keep hb1 (w.heap.size + 1) (by simp)
    have c1 : w1.cell? ⟨w.heap.size + 1, 1, none⟩ = some (.string ⟨#[]⟩) := by rw [k1 1]; simp [go_sem]
    have B1 := below_next (ball (ball (Below.refl _ _))) hb1
    clear k1 hb1
    go_wp2_with fail
    have A1 := cl_new w1 0 0 0
    have BW := ball (o := .cells #[.int .i64 0, .int .u64 0, .int .u64 0] 28) B1
    have GW := HG.out.below BW
    have c1' : (w1.alloc (.cells #[.int .i64 0, .int .u64 0, .int .u64 0] 28)).cell? ⟨w.heap.size + 1, 1, none⟩ = some (.string ⟨#[]⟩) := by rw [World.cell?_alloc_past _ _ _ l1]; exact c1
    obtain ⟨W, hW⟩ : ∃ W, W = w1.alloc (.cells #[.int .i64 0, .int .u64 0, .int .u64 0] 28) := ⟨_, rfl⟩
    rw [← hW] at A1 BW GW c1' ⊢
    clear hW c1 B1
    have a0 := cell_regrown A1.c0; have a1 := cell_regrown A1.c1; have a2 := cell_regrown A1.c2; have d1 := cell_regrown c1'
    refine wp_region_quiet_below (by kernel_rfl) (by kernel_rfl) ?_
    repeat (go_big_quiet_step (fail))
    go_big_quiet_step ((go_at_call 7; exact Calls.regrown_of (print_zero _ (GW.below (below_regrown W _ _)))))
    repeat (go_big_quiet_step (fail))
    go_big_quiet_step ((go_at_call 8; exact Calls.regrown_of (awake_x _ (GW.below (below_regrown W _ _)))))
    repeat (go_big_quiet_step (fail))
    refine wpQuiet_nil ?_
    intro _ hw'
    obtain ⟨⟨dq, osq⟩, hw''⟩ := hw'
    subst hw''
    go_wp2
    go_ret
    exact ⟨rfl, below_next BW (below_regrown W dq osq)⟩
theorem forms_walk (n : Int) (w : World) (hg : Gl w) :
    Calls Tryd.prog 3 #[.int .i64 n] w fun e w' => e = .returned (.bool true) ∧ Below w.heap.size w w' := by
  have h : ∃ k : Nat, k < 33 ∧ (bits BinOp.and IntKind.i64 n 255).tmod 33 = (k : Int) := by
    rw [i64_and255, Int.tmod_eq_emod_of_nonneg (by omega)]
    exact ⟨(n % 256 % 33).toNat, by omega, by omega⟩
  obtain ⟨k, hk, e⟩ := h
  obtain ⟨a, b⟩ := cells_at k hk
  have hlen : rows2.length = 33 := rfl
  refine forms_k n k (rows2.getD k ([], [])).1 (rows2.getD k ([], [])).2 w hg hk e a b ?_
  have hm := List.all_eq_true.1 rows_ok (rows2[k]'(by omega)) (List.getElem_mem _)
  rw [show rows2.getD k ([], []) = rows2[k]'(by omega) by simp [List.getD, List.getElem?_eq_getElem (show k < rows2.length by omega)]]
  exact hm
end Go.Proofs.YtmlhlidjgiofkaaDoor
