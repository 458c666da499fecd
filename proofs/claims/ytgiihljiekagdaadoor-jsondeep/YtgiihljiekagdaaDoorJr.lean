/- Runes as the library decodes them, against the document's, as mathematics. -/
import Derived.Test.YtgiihljiekagdaaDoorJm
import Derived.Test.YtgiihljiekagdaaDoorBas
import Derived.Lib.DecodeN
import Derived.Lib.RuneBytes
import Derived.Shelf.Unicode.DecodeSlow
namespace Go.Proofs.YtgiihljiekagdaaDoor
def runeN (n b0 b1 b2 b3 : Nat) : Nat :=
  if b0 < 128 then 1
  else if 194 ≤ b0 ∧ b0 ≤ 223 then (if 1 < n ∧ 128 ≤ b1 ∧ b1 ≤ 191 then 2 else 0)
  else if 224 ≤ b0 ∧ b0 ≤ 239 then (if 2 < n ∧ (128 ≤ b1 ∧ b1 ≤ 191) ∧ (128 ≤ b2 ∧ b2 ≤ 191) ∧ (b0 = 224 → 160 ≤ b1) ∧ (b0 = 237 → b1 ≤ 159) then 3 else 0)
  else if 240 ≤ b0 ∧ b0 ≤ 244 then (if 3 < n ∧ (128 ≤ b1 ∧ b1 ≤ 191) ∧ (128 ≤ b2 ∧ b2 ≤ 191) ∧ (128 ≤ b3 ∧ b3 ≤ 191) ∧ (b0 = 240 → 144 ≤ b1) ∧ (b0 = 244 → b1 ≤ 143) then 4 else 0)
  else 0
set_option maxRecDepth 100000 in
set_option maxHeartbeats 4000000 in
theorem rune_dec (n b0 b1 b2 b3 : Nat) (h0 : b0 < 256) (h1 : b1 < 256) (h2 : b2 < 256) (h3 : b3 < 256) :
    (runeN n b0 b1 b2 b3 = 0 ∧ Lib.decodeN n b0 b1 b2 b3 = (65533, 1)) ∨
    (runeN n b0 b1 b2 b3 = 1 ∧ Lib.decodeN n b0 b1 b2 b3 = (b0, 1) ∧ b0 < 128) ∨
    (∃ v, runeN n b0 b1 b2 b3 = 2 ∧ 1 < n ∧ Lib.decodeN n b0 b1 b2 b3 = (v, 2) ∧ 128 ≤ v ∧ v < 2048 ∧ 192 + v / 64 = b0 ∧ 128 + v % 64 = b1) ∨
    (∃ v, runeN n b0 b1 b2 b3 = 3 ∧ 2 < n ∧ Lib.decodeN n b0 b1 b2 b3 = (v, 3) ∧ 2048 ≤ v ∧ v < 65536 ∧ (v < 0xd800 ∨ 0xe000 ≤ v) ∧ 224 + v / 4096 = b0 ∧ 128 + v / 64 % 64 = b1 ∧ 128 + v % 64 = b2) ∨
    (∃ v, runeN n b0 b1 b2 b3 = 4 ∧ 3 < n ∧ Lib.decodeN n b0 b1 b2 b3 = (v, 4) ∧ 65536 ≤ v ∧ v < 0x110000 ∧ 240 + v / 262144 = b0 ∧ 128 + v / 4096 % 64 = b1 ∧ 128 + v / 64 % 64 = b2 ∧ 128 + v % 64 = b3) := by
  by_cases c1 : b0 < 128
  · refine .inr (.inl ⟨by simp [runeN, c1], by simp [Lib.decodeN, c1], c1⟩)
  by_cases c2 : 194 ≤ b0 ∧ b0 ≤ 223
  · by_cases d : 1 < n ∧ 128 ≤ b1 ∧ b1 ≤ 191
    · refine .inr (.inr (.inl ⟨b0 % 32 * 64 + b1 % 64, ?_, by omega, ?_, by omega, by omega, by omega, by omega⟩))
      · unfold runeN; rw [if_neg c1, if_pos c2, if_pos d]
      · unfold Lib.decodeN; rw [if_neg c1, if_pos (by omega), if_pos (by omega)]
    · refine .inl ⟨?_, ?_⟩
      · unfold runeN; rw [if_neg c1, if_pos c2, if_neg d]
      · unfold Lib.decodeN
        repeat' split
        all_goals first | rfl | (exfalso; omega)
  by_cases c3 : 224 ≤ b0 ∧ b0 ≤ 239
  · by_cases d : 2 < n ∧ (128 ≤ b1 ∧ b1 ≤ 191) ∧ (128 ≤ b2 ∧ b2 ≤ 191) ∧ (b0 = 224 → 160 ≤ b1) ∧ (b0 = 237 → b1 ≤ 159)
    · refine .inr (.inr (.inr (.inl ⟨b0 % 16 * 4096 + b1 % 64 * 64 + b2 % 64, ?_, by omega, ?_, by omega, by omega, by omega, by omega, by omega, by omega⟩)))
      · unfold runeN; rw [if_neg c1, if_neg c2, if_pos c3, if_pos d]
      · unfold Lib.decodeN; rw [if_neg c1, if_neg (by omega), if_pos (by omega), if_pos (by omega)]
    · refine .inl ⟨?_, ?_⟩
      · unfold runeN; rw [if_neg c1, if_neg c2, if_pos c3, if_neg d]
      · unfold Lib.decodeN
        repeat' split
        all_goals first | rfl | (exfalso; omega)
  by_cases c4 : 240 ≤ b0 ∧ b0 ≤ 244
  · by_cases d : 3 < n ∧ (128 ≤ b1 ∧ b1 ≤ 191) ∧ (128 ≤ b2 ∧ b2 ≤ 191) ∧ (128 ≤ b3 ∧ b3 ≤ 191) ∧ (b0 = 240 → 144 ≤ b1) ∧ (b0 = 244 → b1 ≤ 143)
    · refine .inr (.inr (.inr (.inr ⟨b0 % 8 * 262144 + b1 % 64 * 4096 + b2 % 64 * 64 + b3 % 64, ?_, by omega, ?_, by omega, by omega, by omega, by omega, by omega, by omega⟩)))
      · unfold runeN; rw [if_neg c1, if_neg c2, if_neg c3, if_pos c4, if_pos d]
      · unfold Lib.decodeN; rw [if_neg c1, if_neg (by omega), if_neg (by omega), if_pos (by omega), if_pos (by omega)]
    · refine .inl ⟨?_, ?_⟩
      · unfold runeN; rw [if_neg c1, if_neg c2, if_neg c3, if_pos c4, if_neg d]
      · unfold Lib.decodeN
        repeat' split
        all_goals first | rfl | (exfalso; omega)
  · refine .inl ⟨?_, ?_⟩
    · unfold runeN; rw [if_neg c1, if_neg c2, if_neg c3, if_neg c4]
    · unfold Lib.decodeN
      repeat' split
      all_goals first | rfl | (exfalso; omega)
theorem rune_J (c : UInt8) (r : Bs) : runeJ (c :: r) = runeN (c :: r).length c.toNat ((c :: r).getD 1 0).toNat ((c :: r).getD 2 0).toNat ((c :: r).getD 3 0).toNat := by
  have e224 : ∀ x : UInt8, (x = 224) ↔ x.toNat = 224 := fun x => ⟨fun h => by rw [h]; rfl, fun h => UInt8.toNat_inj.1 h⟩
  have e237 : ∀ x : UInt8, (x = 237) ↔ x.toNat = 237 := fun x => ⟨fun h => by rw [h]; rfl, fun h => UInt8.toNat_inj.1 h⟩
  have e240 : ∀ x : UInt8, (x = 240) ↔ x.toNat = 240 := fun x => ⟨fun h => by rw [h]; rfl, fun h => UInt8.toNat_inj.1 h⟩
  have e244 : ∀ x : UInt8, (x = 244) ↔ x.toNat = 244 := fun x => ⟨fun h => by rw [h]; rfl, fun h => UInt8.toNat_inj.1 h⟩
  unfold runeJ runeN
  simp only [UInt8.lt_iff_toNat_lt, UInt8.le_iff_toNat_le, e224, e237, e240, e244]
  match r with
  | [] => simp
  | [x] => simp
  | [x, y] => simp
  | x :: y :: z :: q => simp
/-- The first rune of a text, as the library decodes it. -/
theorem dec_cases (c : UInt8) (r : Bs) :
    (runeJ (c :: r) = 0 ∧ Lib.decodeGo (baS (c :: r)) = (65533, 1)) ∨
    ∃ v, runeJ (c :: r) = (encJ v).length ∧ Lib.decodeGo (baS (c :: r)) = (v, (encJ v).length) ∧ (c :: r).take (runeJ (c :: r)) = encJ v ∧ v < 0x110000 ∧ (v < 0xd800 ∨ 0xe000 ≤ v) ∧ ((encJ v).length = 1 → v = c.toNat ∧ v < 128) ∧ (2 ≤ (encJ v).length → 128 ≤ v) ∧ 0 < (encJ v).length ∧ (encJ v).length ≤ (c :: r).length := by
  have hsz : (baS (c :: r)).size = (c :: r).length := baS_size _
  have hg : ∀ k, ((baS (c :: r)).get! k).toNat = ((c :: r).getD k 0).toNat := fun k => by
    show ((c :: r).toArray[k]!).toNat = _
    congr 1
    simp [List.getElem!_eq_getElem?_getD, List.getD_eq_getElem?_getD]
    rfl
  have hd : Lib.decodeGo (baS (c :: r)) = Lib.decodeN (c :: r).length c.toNat ((c :: r).getD 1 0).toNat ((c :: r).getD 2 0).toNat ((c :: r).getD 3 0).toNat := by
    unfold Lib.decodeGo
    rw [if_neg (by rw [hsz]; simp), Lib.decode_at, hsz, hg, hg, hg, hg]
    rfl
  rw [hd, rune_J]
  have hlt := fun k => ((c :: r).getD k 0).toNat_lt
  rcases rune_dec (c :: r).length c.toNat ((c :: r).getD 1 0).toNat ((c :: r).getD 2 0).toNat ((c :: r).getD 3 0).toNat c.toNat_lt (hlt 1) (hlt 2) (hlt 3) with ⟨h1, h2⟩ | ⟨h1, h2, h3⟩ | ⟨v, h1, h0, h2, h3, h4, h5, h6⟩ | ⟨v, h1, h0, h2, h3, h4, hv, h5, h6, h7⟩ | ⟨v, h1, h0, h2, h3, h4, h5, h6, h7, h8⟩
  · exact .inl ⟨h1, h2⟩
  · have he : encJ c.toNat = [c] := by unfold encJ; rw [if_pos h3]; simp
    rw [h1, h2]
    exact .inr ⟨c.toNat, by rw [he]; rfl, by rw [he]; rfl, by rw [he]; rfl, by omega, by omega, fun _ => ⟨rfl, h3⟩, fun h => by rw [he] at h; simp at h, by rw [he]; simp, by rw [he]; simp⟩
  · match r, h0 with
    | x :: q, _ =>
      simp only [List.getD_cons_succ, List.getD_cons_zero] at h5 h6 h1 h2
      have he : encJ v = [c, x] := by
        unfold encJ; rw [if_neg (by omega), if_pos h4, h5, h6]; simp
      simp only [List.getD_cons_succ, List.getD_cons_zero]
      rw [h1, h2]
      exact .inr ⟨v, by rw [he]; rfl, by rw [he]; rfl, by rw [he]; rfl, by omega, by omega, fun h => by rw [he] at h; simp at h, fun _ => h3, by rw [he]; simp, by rw [he]; simp⟩
  · match r, h0 with
    | x :: y :: q, _ =>
      simp only [List.getD_cons_succ, List.getD_cons_zero] at h5 h6 h7 h1 h2
      have he : encJ v = [c, x, y] := by
        unfold encJ; rw [if_neg (by omega), if_neg (by omega), if_pos h4, h5, h6, h7]; simp
      simp only [List.getD_cons_succ, List.getD_cons_zero]
      rw [h1, h2]
      exact .inr ⟨v, by rw [he]; rfl, by rw [he]; rfl, by rw [he]; rfl, by omega, hv, fun h => by rw [he] at h; simp at h, fun _ => by omega, by rw [he]; simp, by rw [he]; simp⟩
    | [_], h => simp at h
  · match r, h0 with
    | x :: y :: z :: q, _ =>
      simp only [List.getD_cons_succ, List.getD_cons_zero] at h5 h6 h7 h8 h1 h2
      have he : encJ v = [c, x, y, z] := by
        unfold encJ; rw [if_neg (by omega), if_neg (by omega), if_neg (by omega), h5, h6, h7, h8]; simp
      simp only [List.getD_cons_succ, List.getD_cons_zero]
      rw [h1, h2]
      exact .inr ⟨v, by rw [he]; rfl, by rw [he]; rfl, by rw [he]; rfl, by omega, by omega, fun h => by rw [he] at h; simp at h, fun _ => by omega, by rw [he]; simp, by rw [he]; simp⟩
    | [_], h => simp at h
    | [_, _], h => simp at h
/-- What the library puts behind a row of bytes for a rune. -/
theorem cells_enc {n : Nat} (h1 : n < 0x110000) (h2 : n < 0xd800 ∨ 0xe000 ≤ n) : Lib.runeCells (n : Int) = (encJ n).map fun b => Value.int .u8 (b.toNat : Int) := by
  unfold Lib.runeCells encJ
  by_cases c1 : n < 128
  · rw [Lib.encodeRuneZ_one (by omega) (by omega), if_pos c1]
    simp; omega
  by_cases c2 : n < 2048
  · rw [Lib.encodeRuneZ_two (by omega) (by omega), if_neg c1, if_pos c2]
    simp; omega
  by_cases c3 : n < 65536
  · rw [Lib.encodeRuneZ_three (by omega), if_neg c1, if_neg c2, if_pos c3]
    simp; omega
  · rw [Lib.encodeRuneZ_four (by omega) (by omega), if_neg c1, if_neg c2, if_neg c3]
    simp; omega
end Go.Proofs.YtgiihljiekagdaaDoor
