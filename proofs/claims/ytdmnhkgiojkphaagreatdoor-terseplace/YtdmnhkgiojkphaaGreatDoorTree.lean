/- Plain facts: trees, their texts, and how texts are read. No program is in them. -/
import Derived.Lib.ValidLaws
import Derived.Lib.MapLaws
import Derived.Lib.ParseIntB
import Derived.Lib.ItoaMem
namespace Go.Proofs.YtdmnhkgiojkphaaGreatDoor
open Go

/-- Bytes as a string. -/
def str (l : List UInt8) : ByteArray := ⟨l.toArray⟩
theorem str_list (l : List UInt8) : (str l).data.toList = l := by simp [str]
theorem list_str (s : ByteArray) : str s.data.toList = s := by simp [str]
theorem str_size (l : List UInt8) : (str l).size = l.length := by simp [str, ByteArray.size]

/-- A value of JSON's subset, as the program's struct tells it. -/
inductive Tree where
  | mk (kind : Int) (flag : Bool) (n : Int) (text : ByteArray) (keys : List ByteArray) (items : List Tree)

namespace Tree
def kind : Tree → Int | mk k _ _ _ _ _ => k
def flag : Tree → Bool | mk _ f _ _ _ _ => f
def n : Tree → Int | mk _ _ n _ _ _ => n
def text : Tree → ByteArray | mk _ _ _ t _ _ => t
def keys : Tree → List ByteArray | mk _ _ _ _ k _ => k
def items : Tree → List Tree | mk _ _ _ _ _ i => i
end Tree

def zeroT : Tree := .mk 0 false 0 ⟨#[]⟩ [] []

/-! ### Check -/
def good (s : ByteArray) : Bool := Lib.validD s.data.toList
def hasItems (k : Int) : Bool := k == 5 || k == 6
def spareB (t : Tree) : Bool :=
  (!t.flag || t.kind == 2) && (t.n == 0 || t.kind == 3) && (t.text.size == 0 || t.kind == 4) && (t.keys.length == 0 || t.kind == 6) && (t.items.length == 0 || hasItems t.kind)
/-- Does one stand among them? -/
def hasK (ks : List ByteArray) (k : ByteArray) : Bool := ks.any fun x => decide (x.data.toList = k.data.toList)
theorem hasK_iff {ks : List ByteArray} {k : ByteArray} : hasK ks k = true ↔ k ∈ ks := by
  unfold hasK
  rw [List.any_eq_true]
  constructor
  · rintro ⟨x, hx, h⟩
    have : x = k := by rw [← list_str x, of_decide_eq_true h, list_str]
    exact this ▸ hx
  · exact fun h => ⟨k, h, decide_eq_true rfl⟩
theorem hasK_false {ks : List ByteArray} {k : ByteArray} : hasK ks k = false ↔ k ∉ ks := by
  rw [← hasK_iff]; simp
def nodup : List ByteArray → Bool
  | [] => true
  | k :: r => !hasK r k && nodup r
def keysFit (t : Tree) : Bool := t.keys.length == t.items.length && nodup t.keys
/-- The error of a value itself, with so many lists and maps about it. -/
def oneE (t : Tree) (about : Nat) : Int :=
  if (hasItems t.kind && decide (32 ≤ about)) = true then 21
  else if (decide (t.kind < 1) || decide (6 < t.kind) || !spareB t) = true then 26
  else if (!good t.text || !t.keys.all good) = true then 22
  else if (t.kind == 6 && !keysFit t) = true then 24 else 0
mutual
def checkT : Tree → Nat → Int
  | .mk k f n t ks is, about => if oneE (.mk k f n t ks is) about = 0 then checkL is (about + 1) else oneE (.mk k f n t ks is) about
def checkL : List Tree → Nat → Int
  | [], _ => 0
  | t :: r, about => if checkT t about = 0 then checkL r about else checkT t about
end
theorem checkT_eq (t : Tree) (about : Nat) : checkT t about = if oneE t about = 0 then checkL t.items (about + 1) else oneE t about := by
  cases t with | mk k f n t ks is => rw [checkT]; rfl
theorem checkL_zero {l : List Tree} {about : Nat} : checkL l about = 0 ↔ ∀ t ∈ l, checkT t about = 0 := by
  induction l with
  | nil => simp [checkL]
  | cons t r ih =>
    rw [checkL]
    by_cases h : checkT t about = 0
    · rw [if_pos h, ih]; simp [h]
    · rw [if_neg h]
      constructor
      · intro h'; exact absurd h' h
      · intro h'; exact absurd (h' t (by simp)) h

/-! ### depth -/
mutual
def depthT : Tree → Nat
  | .mk k _ _ _ _ is => if hasItems k = true then depthL is + 1 else 0
def depthL : List Tree → Nat
  | [] => 0
  | t :: r => max (depthT t) (depthL r)
end
theorem depthT_eq (t : Tree) : depthT t = if hasItems t.kind = true then depthL t.items + 1 else 0 := by
  cases t with | mk k f n t ks is => rw [depthT]; rfl
theorem depthL_mem {l : List Tree} {t : Tree} (h : t ∈ l) : depthT t ≤ depthL l := by
  induction l with
  | nil => cases h
  | cons a r ih =>
    rw [depthL]
    rcases List.mem_cons.1 h with rfl | h
    · omega
    · have := ih h; omega

/-! ### Print -/
def hexd (n : Nat) : UInt8 := if n < 10 then UInt8.ofNat (48 + n) else UInt8.ofNat (87 + n)
/-- A byte as it stands within a text. -/
def escB (b : UInt8) : List UInt8 :=
  if b = 34 ∨ b = 92 then [92, b]
  else if b = 10 then [92, 110] else if b = 13 then [92, 114] else if b = 9 then [92, 116]
  else if b.toNat < 32 then [92, 117, 48, 48, hexd (b.toNat / 16), hexd (b.toNat % 16)]
  else [b]
def escL (l : List UInt8) : List UInt8 := l.flatMap escB
def quo (l : List UInt8) : List UInt8 := 34 :: (escL l ++ [34])
def nullW : List UInt8 := [110, 117, 108, 108]
def trueW : List UInt8 := [116, 114, 117, 101]
def falseW : List UInt8 := [102, 97, 108, 115, 101]
/-- Texts with a comma between. -/
def sep : List (List UInt8) → List UInt8
  | [] => []
  | [p] => p
  | p :: q :: r => p ++ 44 :: sep (q :: r)
def ents (ks : List ByteArray) (ps : List (List UInt8)) : List (List UInt8) := List.zipWith (fun k p => quo k.data.toList ++ 58 :: p) ks ps
mutual
def pr : Tree → List UInt8
  | .mk k f n t ks is =>
    if k = 1 then nullW else if k = 2 then (if f = true then trueW else falseW) else if k = 3 then Lib.itoa n else if k = 4 then quo t.data.toList
    else if k = 5 then 91 :: (sep (prs is) ++ [93]) else 123 :: (sep (ents ks (prs is)) ++ [125])
def prs : List Tree → List (List UInt8)
  | [] => []
  | t :: r => pr t :: prs r
end
theorem prs_map (l : List Tree) : prs l = l.map pr := by
  induction l with
  | nil => rfl
  | cons t r ih => rw [prs, ih]; rfl
theorem pr_eq (t : Tree) : pr t = if t.kind = 1 then nullW else if t.kind = 2 then (if t.flag = true then trueW else falseW) else if t.kind = 3 then Lib.itoa t.n else if t.kind = 4 then quo t.text.data.toList
    else if t.kind = 5 then 91 :: (sep (t.items.map pr) ++ [93]) else 123 :: (sep (ents t.keys (t.items.map pr)) ++ [125]) := by
  cases t with | mk k f n t ks is => rw [pr, prs_map]; rfl
theorem sep_snoc (ps : List (List UInt8)) (p : List UInt8) : sep (ps ++ [p]) = if ps = [] then p else sep ps ++ 44 :: p := by
  induction ps with
  | nil => rfl
  | cons a r ih =>
    cases r with
    | nil => simp [sep]
    | cons b q =>
      have : (a :: b :: q) ++ [p] = a :: b :: (q ++ [p]) := rfl
      rw [this]
      simp only [sep]
      have ih' : sep (b :: (q ++ [p])) = sep (b :: q) ++ 44 :: p := by simpa using ih
      rw [ih']
      simp

/-! ### Parse -/
inductive Res (α : Type) where
  | ok (a : α) (rest : List UInt8)
  | bad (code : Int) (rest : List UInt8)

def isBlank (b : UInt8) : Bool := b == 32 || b == 9 || b == 10 || b == 13
def skip (l : List UInt8) : List UInt8 := l.dropWhile isBlank
/-- What ends a word. -/
def isEnd (b : UInt8) : Bool := b == 91 || b == 93 || b == 123 || b == 125 || b == 44 || b == 58 || b == 34 || b == 9 || b == 10 || b == 13 || b == 32
def wordOf (l : List UInt8) : List UInt8 := l.takeWhile (fun b => !isEnd b)

/-- A digit of four. -/
def hexv (b : UInt8) : Option Nat :=
  if 48 ≤ b.toNat ∧ b.toNat ≤ 57 then some (b.toNat - 48)
  else if 97 ≤ b.toNat ∧ b.toNat ≤ 102 then some (b.toNat - 87)
  else if 65 ≤ b.toNat ∧ b.toNat ≤ 70 then some (b.toNat - 55) else none
/-- The number of an escape of four digits at the front. -/
def fourN : List UInt8 → Option Nat
  | 92 :: 117 :: a :: b :: c :: d :: _ => match hexv a, hexv b, hexv c, hexv d with
    | some a, some b, some c, some d => some (((a * 16 + b) * 16 + c) * 16 + d)
    | _, _, _, _ => none
  | _ => none
/-- The code point of the escape at the front, and how many bytes it has. -/
def escP (l : List UInt8) : Option (Nat × Nat) :=
  match l with
  | _ :: c :: _ =>
    if c = 34 ∨ c = 92 ∨ c = 47 then some (c.toNat, 2)
    else if c = 98 then some (8, 2) else if c = 102 then some (12, 2) else if c = 110 then some (10, 2) else if c = 114 then some (13, 2) else if c = 116 then some (9, 2)
    else if c = 117 then
      match fourN l with
      | none => none
      | some a => if a < 55296 ∨ 57343 < a then some (a, 6)
        else match fourN (l.drop 6) with
          | none => none
          | some b => if 56319 < a ∨ b < 56320 ∨ 57343 < b then none else some (65536 + (a - 55296) * 1024 + (b - 56320), 12)
    else none
  | _ => none
def addFront (p : List UInt8) : Option (List UInt8 × List UInt8) → Option (List UInt8 × List UInt8)
  | none => none
  | some (t, r) => some (p ++ t, r)
/-- A text behind its first quote: what it says, and what is left behind its last. -/
def unq : Nat → List UInt8 → Option (List UInt8 × List UInt8)
  | 0, _ => none
  | _ + 1, [] => none
  | f + 1, c :: r =>
    if c = 34 then some ([], r)
    else if c = 92 then match escP (c :: r) with
      | none => none
      | some (p, w) => addFront (Lib.encodeRune p) (unq f ((c :: r).drop w))
    else if c.toNat < 32 ∨ ((Lib.decodeL (c :: r)).1 = 65533 ∧ (Lib.decodeL (c :: r)).2 = 1) then none
    else addFront ((c :: r).take (Lib.decodeL (c :: r)).2) (unq f ((c :: r).drop (Lib.decodeL (c :: r)).2))
def unquote (l : List UInt8) : Option (List UInt8 × List UInt8) := unq l.length l

def isDig (b : UInt8) : Bool := decide (48 ≤ b.toNat) && decide (b.toNat ≤ 57)
def digs (l : List UInt8) : Nat := (l.takeWhile isDig).length
def noMinus : List UInt8 → List UInt8
  | 45 :: q => q
  | q => q
def noSign : List UInt8 → List UInt8
  | 43 :: q => q
  | 45 :: q => q
  | q => q
def isExp : List UInt8 → Bool
  | [] => false
  | c :: r => (c == 101 || c == 69) && (!(noSign r).isEmpty && digs (noSign r) == (noSign r).length)
def restNum (r : List UInt8) : Bool := r.isEmpty || isExp r
def fracNum : List UInt8 → Bool
  | 46 :: q => if digs q = 0 then false else restNum (q.drop (digs q))
  | q => restNum q
def wholeNum (r : List UInt8) : Bool := if digs r = 0 ∨ (1 < digs r ∧ r.head? = some 48) then false else fracNum (r.drop (digs r))
def isNum (w : List UInt8) : Bool := wholeNum (noMinus w)
/-- The value of a word, or the error. -/
def readWord (w : List UInt8) : Except Int Tree :=
  if w = nullW then .ok (.mk 1 false 0 ⟨#[]⟩ [] [])
  else if w = falseW then .ok (.mk 2 false 0 ⟨#[]⟩ [] [])
  else if w = trueW then .ok (.mk 2 true 0 ⟨#[]⟩ [] [])
  else if isNum w = false then .error 22
  else match Lib.parseIntB 64 w with
    | .ok v => if w = [45, 48] then .error 23 else .ok (.mk 3 false v ⟨#[]⟩ [] [])
    | _ => .error 23

/-- Items with commas between, behind those that are read. -/
def listGo (it : List UInt8 → Res Tree) : Nat → List UInt8 → List Tree → Res Tree
  | 0, l, _ => .bad 22 l
  | f + 1, l, acc => match it l with
    | .bad c q => .bad c q
    | .ok t q => match skip q with
      | 93 :: q' => .ok (.mk 5 false 0 ⟨#[]⟩ [] (acc ++ [t])) q'
      | 44 :: q' => listGo it f q' (acc ++ [t])
      | p => .bad 22 p
def listR (it : List UInt8 → Res Tree) (l : List UInt8) : Res Tree :=
  match skip l with
  | 93 :: q => .ok (.mk 5 false 0 ⟨#[]⟩ [] []) q
  | _ => listGo it (l.length + 1) l []
/-- A map's key. -/
def keyR (ks : List ByteArray) (l : List UInt8) : Res ByteArray :=
  match skip l with
  | 34 :: r => match unquote r with
    | none => .bad 22 (34 :: r)
    | some (k, q) => if hasK ks (str k) = true then .bad 24 (34 :: r) else .ok (str k) q
  | p => .bad 22 p
def mapGo (it : List UInt8 → Res Tree) : Nat → List UInt8 → List ByteArray → List Tree → Res Tree
  | 0, l, _, _ => .bad 22 l
  | f + 1, l, ks, acc => match keyR ks l with
    | .bad c q => .bad c q
    | .ok k q => match skip q with
      | 58 :: q1 => match it q1 with
        | .bad c q => .bad c q
        | .ok t q => match skip q with
          | 125 :: q' => .ok (.mk 6 false 0 ⟨#[]⟩ (ks ++ [k]) (acc ++ [t])) q'
          | 44 :: q' => mapGo it f q' (ks ++ [k]) (acc ++ [t])
          | p => .bad 22 p
      | p => .bad 22 p
def mapR (it : List UInt8 → Res Tree) (l : List UInt8) : Res Tree :=
  match skip l with
  | 125 :: q => .ok (.mk 6 false 0 ⟨#[]⟩ [] []) q
  | _ => mapGo it (l.length + 1) l [] []
/-- An item, by how those within it are read. -/
def itemW (deeper : Option (List UInt8 → Res Tree)) (l : List UInt8) : Res Tree :=
  match skip l with
  | [] => .bad 22 []
  | c :: r =>
    if c = 91 then (match deeper with | none => .bad 21 (c :: r) | some it => listR it r)
    else if c = 123 then (match deeper with | none => .bad 21 (c :: r) | some it => mapR it r)
    else if c = 34 then (match unquote r with | none => .bad 22 (c :: r) | some (t, q) => .ok (.mk 4 false 0 (str t) [] []) q)
    else match readWord (wordOf (c :: r)) with
      | .error e => .bad e (c :: r)
      | .ok t => .ok t ((c :: r).drop (wordOf (c :: r)).length)
/-- An item in which so many lists and maps may stand in one another. -/
def itemR : Nat → List UInt8 → Res Tree
  | 0 => itemW none
  | k + 1 => itemW (some (itemR k))
def parseR (d : Nat) (l : List UInt8) : Res Tree :=
  match itemR d l with
  | .bad c q => .bad c q
  | .ok t q => match skip q with
    | [] => .ok t []
    | p => .bad 25 p
end Go.Proofs.YtdmnhkgiojkphaaGreatDoor
