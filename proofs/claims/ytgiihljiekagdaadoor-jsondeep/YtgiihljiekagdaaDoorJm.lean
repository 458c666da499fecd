/- Values (chapter 11), as mathematics on lists of bytes: what stands between signs, numbers, texts, values in values. -/
import Derived.Test.YtgiihljiekagdaaDoorKb
namespace Go.Proofs.YtgiihljiekagdaaDoor
/-- A value: kind, number, text, values, names, place. -/
inductive Js where
  | mk (kind : Nat) (num : Int) (text : Bs) (list : List Js) (keys : List Bs) (at_ : Nat)
def Js.kind : Js → Nat | .mk k _ _ _ _ _ => k
def Js.num : Js → Int | .mk _ n _ _ _ _ => n
def Js.text : Js → Bs | .mk _ _ t _ _ _ => t
def Js.list : Js → List Js | .mk _ _ _ l _ _ => l
def Js.keys : Js → List Bs | .mk _ _ _ _ q _ => q
def Js.at_ : Js → Nat | .mk _ _ _ _ _ a => a
/-- What was read, the place behind it and what stands there; or what is wrong, and where. -/
inductive PJ (α : Type) where
  | ok (x : α) (i : Nat) (s : Bs)
  | bad (k a : Nat)
def PJ.andThen {α β : Type} (x : PJ α) (f : α → Nat → Bs → PJ β) : PJ β :=
  match x with
  | .ok v i s => f v i s
  | .bad k a => .bad k a
theorem PJ.andThen_ok {α β : Type} (v : α) (i : Nat) (s : Bs) (f : α → Nat → Bs → PJ β) : (PJ.ok v i s).andThen f = f v i s := rfl
theorem PJ.andThen_bad {α β : Type} (k a : Nat) (f : α → Nat → Bs → PJ β) : (PJ.bad k a : PJ α).andThen f = .bad k a := rfl
def blankJ (c : UInt8) : Bool := c == 32 || c == 9 || c == 10 || c == 13
/-- Blanks and comments: an automaton (0 between, 1 in a line's comment, 3 and 2 in a comment with an end, 4 at its last byte; f: where it began). -/
def skipJ : Nat → Nat → Nat → Bs → PJ Unit
  | m, f, i, [] => if m = 2 ∨ m = 3 ∨ m = 4 then .bad 1 f else .ok () i []
  | m, f, i, c :: r =>
    if m = 1 then (if c = 10 then skipJ 0 f (i + 1) r else skipJ 1 f (i + 1) r)
    else if m = 2 then (if c = 42 ∧ r.head? = some 47 then skipJ 4 f (i + 1) r else skipJ 2 f (i + 1) r)
    else if m = 3 then skipJ 2 f (i + 1) r
    else if m = 4 then skipJ 0 f (i + 1) r
    else if blankJ c then skipJ 0 f (i + 1) r
    else if c = 35 ∨ (c = 47 ∧ r.head? = some 47) then skipJ 1 f (i + 1) r
    else if c = 47 ∧ r.head? = some 42 then skipJ 3 i (i + 1) r
    else if c = 47 then .bad 1 i
    else .ok () i (c :: r)
def digitJ (c : UInt8) : Bool := 48 ≤ c && c ≤ 57
def tailJ (c : UInt8) : Bool := digitJ c || (97 ≤ c && c ≤ 122) || (65 ≤ c && c ≤ 90) || c == 46 || c == 43 || c == 45
/-- Digits without a needless nought ahead. -/
def digsJ (t : Bs) : Bool := !t.isEmpty && t.all digitJ && (t.length == 1 || t.head? != some 48)
def natJ (t : Bs) : Nat := t.foldl (fun n c => n * 10 + (c.toNat - 48)) 0
def numJ (t : Bs) : Option Int :=
  if t.head? = some 45 then (if digsJ t.tail = true ∧ 0 < natJ t.tail ∧ natJ t.tail ≤ 2 ^ 63 then some (-(natJ t.tail : Int)) else none)
  else if digsJ t = true ∧ natJ t < 2 ^ 63 then some (natJ t : Int) else none
/-- How many bytes the first rune takes (0: there is none). -/
def runeJ : Bs → Nat
  | [] => 0
  | a :: r =>
    if a < 128 then 1
    else if 194 ≤ a ∧ a ≤ 223 then (match r with | b :: _ => if 128 ≤ b ∧ b ≤ 191 then 2 else 0 | _ => 0)
    else if 224 ≤ a ∧ a ≤ 239 then (match r with | b :: c :: _ => if (128 ≤ b ∧ b ≤ 191) ∧ (128 ≤ c ∧ c ≤ 191) ∧ (a = 224 → 160 ≤ b) ∧ (a = 237 → b ≤ 159) then 3 else 0 | _ => 0)
    else if 240 ≤ a ∧ a ≤ 244 then (match r with | b :: c :: d :: _ => if (128 ≤ b ∧ b ≤ 191) ∧ (128 ≤ c ∧ c ≤ 191) ∧ (128 ≤ d ∧ d ≤ 191) ∧ (a = 240 → 144 ≤ b) ∧ (a = 244 → b ≤ 143) then 4 else 0 | _ => 0)
    else 0
/-- A rune's bytes. -/
def encJ (n : Nat) : Bs :=
  if n < 128 then [n.toUInt8]
  else if n < 2048 then [(192 + n / 64).toUInt8, (128 + n % 64).toUInt8]
  else if n < 65536 then [(224 + n / 4096).toUInt8, (128 + n / 64 % 64).toUInt8, (128 + n % 64).toUInt8]
  else [(240 + n / 262144).toUInt8, (128 + n / 4096 % 64).toUInt8, (128 + n / 64 % 64).toUInt8, (128 + n % 64).toUInt8]
def hexJ (c : UInt8) : Option Nat :=
  if digitJ c then some (c.toNat - 48) else if 97 ≤ c ∧ c ≤ 102 then some (c.toNat - 87) else if 65 ≤ c ∧ c ≤ 70 then some (c.toNat - 55) else none
/-- So many hex digits: none: a byte is none; some none: the text ends within them. -/
def hexsJ : Nat → Nat → Bs → Option (Option (Nat × Bs))
  | 0, n, s => some (some (n, s))
  | _ + 1, _, [] => some none
  | k + 1, n, c :: r => match hexJ c with | none => none | some d => hexsJ k (16 * n + d) r
def plainJ (c : UInt8) : Option UInt8 :=
  if c = 34 ∨ c = 92 ∨ c = 47 then some c else if c = 98 then some 8 else if c = 102 then some 12 else if c = 110 then some 10 else if c = 114 then some 13 else if c = 116 then some 9 else none
/-- An escape that begins at i (s: what stands behind its first byte): the bytes of its rune. -/
def escJ (i : Nat) (s : Bs) : PJ Bs :=
  match s with
  | [] => .bad 1 (i + 1)
  | c :: r =>
    match plainJ c with
    | some d => .ok [d] (i + 2) r
    | none =>
      if c ≠ 117 then .bad 1 i
      else match hexsJ 4 0 r with
        | none => .bad 1 i
        | some none => .bad 1 (i + 1 + s.length)
        | some (some (n, r2)) =>
          if n < 0xd800 ∨ 0xdfff < n then .ok (encJ n) (i + 6) r2
          else if 0xdbff < n then .bad 1 i
          else match r2 with
            | [] => .bad 1 (i + 6)
            | c1 :: r3 =>
              if c1 ≠ 92 then .bad 1 i
              else match r3 with
                | [] => .bad 1 (i + 7)
                | c2 :: r4 =>
                  if c2 ≠ 117 then .bad 1 i
                  else match hexsJ 4 0 r4 with
                    | none => .bad 1 i
                    | some none => .bad 1 (i + 8 + r4.length)
                    | some (some (m, r5)) => if m < 0xdc00 ∨ 0xdfff < m then .bad 1 i else .ok (encJ (0x10000 + (n - 0xd800) * 1024 + (m - 0xdc00))) (i + 12) r5
/-- A text's inside, up to its end: the bytes that it stands for (the first argument: more steps than it can take). -/
def insideJ : Nat → Bs → Nat → Bs → PJ Bs
  | 0, _, i, _ => .bad 1 i
  | _ + 1, _, i, [] => .bad 1 i
  | k + 1, acc, i, c :: r =>
    if c = 34 then .ok acc (i + 1) r
    else if c = 92 then (match escJ i r with | .bad q a => .bad q a | .ok x j t => insideJ k (acc ++ x) j t)
    else if c < 32 ∨ runeJ (c :: r) = 0 then .bad 1 i
    else insideJ k (acc ++ (c :: r).take (runeJ (c :: r))) (i + runeJ (c :: r)) ((c :: r).drop (runeJ (c :: r)))
/-- A text that begins at i, its first sign among s. -/
def textJ (i : Nat) (s : Bs) : PJ Bs :=
  match insideJ (s.length + 1) [] (i + 1) s.tail with
  | .bad q a => .bad q a
  | .ok x j t => if 255 < x.length then .bad 2 i else .ok x j t
/-- A sign. -/
def signJ (c : UInt8) (i : Nat) (s : Bs) : PJ Unit :=
  match s with
  | [] => .bad 1 i
  | d :: r => if d = c then .ok () (i + 1) r else .bad 1 i
/-- A word. -/
def wordJ : Bs → Nat → Bs → PJ Unit
  | [], i, s => .ok () i s
  | c :: q, i, s => (signJ c i s).andThen fun _ j t => wordJ q j t
/-- A name, and the sign behind it. -/
def nameJ (ks : List Bs) (i : Nat) (s : Bs) : PJ Bs :=
  if s.head? ≠ some 34 then .bad 1 i
  else (textJ i s).andThen fun x j t => if x ∈ ks then .bad 3 i else (skipJ 0 0 j t).andThen fun _ j2 t2 => (signJ 58 j2 t2).andThen fun _ j3 t3 => (skipJ 0 0 j3 t3).andThen fun _ j4 t4 => .ok x j4 t4
/-- What stands in a list, or in a map, behind its first sign and what follows that; vf reads a value. -/
def itemsJ (vf : Nat → Bs → PJ Js) (m : Bool) (e : UInt8) : Nat → List Js → List Bs → Nat → Bs → PJ (List Js × List Bs)
  | 0, _, _, i, _ => .bad 1 i
  | k + 1, vs, ks, i, s =>
    (if m then (nameJ ks i s).andThen fun x j t => .ok (ks ++ [x]) j t else .ok ks i s).andThen fun ks2 j t =>
      (vf j t).andThen fun v j2 t2 => (skipJ 0 0 j2 t2).andThen fun _ j3 t3 =>
        if t3.head? = some 44 then (skipJ 0 0 (j3 + 1) t3.tail).andThen fun _ j4 t4 => itemsJ vf m e k (vs ++ [v]) ks2 j4 t4
        else (signJ e j3 t3).andThen fun _ j4 t4 => .ok (vs ++ [v], ks2) j4 t4
/-- A list, or a map: all of it. -/
def groupJ (vf : Nat → Bs → PJ Js) (m : Bool) (i : Nat) (s : Bs) : PJ Js :=
  (skipJ 0 0 (i + 1) s.tail).andThen fun _ j t =>
    if t.head? = some (if m then 125 else 93) then .ok (.mk (if m then 7 else 6) 0 [] [] [] i) (j + 1) t.tail
    else (itemsJ vf m (if m then 125 else 93) (s.length + 1) [] [] j t).andThen fun x j2 t2 => .ok (.mk (if m then 7 else 6) 0 [] x.1 x.2 i) j2 t2
/-- A value; the first argument: in how many more it may be. -/
def valueJ : Nat → Nat → Bs → PJ Js
  | _, i, [] => .bad 1 i
  | room, i, c :: r =>
    if c = 91 ∨ c = 123 then (match room with | 0 => .bad 2 i | q + 1 => groupJ (valueJ q) (c == 123) i (c :: r))
    else if c = 34 then (textJ i (c :: r)).andThen fun x j t => .ok (.mk 5 0 x [] [] i) j t
    else if c = 45 ∨ digitJ c then (match numJ ((c :: r).takeWhile tailJ) with | none => .bad 1 i | some n => .ok (.mk 4 n [] [] [] i) (i + ((c :: r).takeWhile tailJ).length) ((c :: r).dropWhile tailJ))
    else if c = 110 then (wordJ [110, 117, 108, 108] i (c :: r)).andThen fun _ j t => .ok (.mk 1 0 [] [] [] i) j t
    else if c = 116 then (wordJ [116, 114, 117, 101] i (c :: r)).andThen fun _ j t => .ok (.mk 3 0 [] [] [] i) j t
    else if c = 102 then (wordJ [102, 97, 108, 115, 101] i (c :: r)).andThen fun _ j t => .ok (.mk 2 0 [] [] [] i) j t
    else .bad 1 i
/-- What a text says: a value, or what is wrong and where. -/
inductive VJ where
  | ok (v : Js)
  | bad (k a : Nat)
def jsonV (l : Bs) : VJ :=
  match (skipJ 0 0 0 l).andThen fun _ i s => (valueJ 64 i s).andThen fun v j t => (skipJ 0 0 j t).andThen fun _ j2 t2 => if t2 = [] then .ok v j2 t2 else .bad 1 j2 with
  | .ok v _ _ => .ok v
  | .bad k a => .bad k a
end Go.Proofs.YtgiihljiekagdaaDoor
