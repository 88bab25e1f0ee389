/- Scanning, as plain mathematics: bytes to tokens. -/
namespace Go.Proofs.YtiapdapkklcliaaGreatDoor.Sc

def isBlank (c : UInt8) : Bool := c == 9 || c == 10 || c == 13 || c == 32
def isLower (c : UInt8) : Bool := 97 ≤ c && c ≤ 122
def isLetter (c : UInt8) : Bool := isLower c || (65 ≤ c && c ≤ 90)
def isDigit (c : UInt8) : Bool := 48 ≤ c && c ≤ 57
def isJoint (c : UInt8) : Bool := c == 95 || c == 64
def isName (c : UInt8) : Bool := isLetter c || isDigit c || isJoint c

/-- How many bytes at the beginning belong together. -/
def span (p : UInt8 → Bool) : List UInt8 → Nat
  | [] => 0
  | c :: r => if p c then span p r + 1 else 0

/-- Are we in a comment behind this byte? -/
def inC (q : Bool) (c : UInt8) : Bool := if c = 37 then true else if c = 10 then false else q
/-- How many bytes of blanks and comments there are. -/
def gapL (q : Bool) : List UInt8 → Nat
  | [] => 0
  | c :: r => if inC q c || isBlank c then gapL (inC q c) r + 1 else 0
def gap (s : List UInt8) : Nat := gapL false s

def words : List (List UInt8) :=
  [[97,102,116,101,114], [97,110,100], [97,110,100,97,108,115,111], [98,101,103,105,110], [99,97,115,101], [100,105,118], [101,110,100], [102,117,110], [105,102], [110,111,116],
   [111,102], [111,114], [111,114,101,108,115,101], [114,101,99,101,105,118,101], [114,101,109], [116,114,121], [99,97,116,99,104], [119,104,101,110], [120,111,114]]
def signs : List (List UInt8) :=
  [[40], [41], [123], [125], [91], [93], [44], [59], [58], [45,62], [60,45], [124,124], [124],
   [61], [61,61], [47,61], [61,58,61], [61,47,61], [60], [61,60], [62], [62,61], [43], [45], [42], [47], [43,43], [45,45], [33]]

def hexV (c : UInt8) : UInt8 := if isDigit c then c - 48 else if 97 ≤ c && c ≤ 102 then c - 97 + 10 else if 65 ≤ c && c ≤ 70 then c - 65 + 10 else 255

/-- What the escape behind a backslash says, and its size with the backslash. -/
def escape : List UInt8 → UInt8 × Nat
  | [] => (0, 0)
  | e :: r =>
    if e = 110 then (10, 2) else if e = 116 then (9, 2) else if e = 92 then (92, 2) else if e = 39 then (39, 2) else if e = 34 then (34, 2)
    else if e = 120 then
      match r with
      | h :: l :: _ => if 15 < hexV h || 15 < hexV l then (0, 0) else (hexV h <<< 4 ||| hexV l, 4)
      | _ => (0, 0)
    else (0, 0)
/-- The byte that is said first, between quotes, and how many bytes say it. -/
def inside : List UInt8 → UInt8 × Nat
  | [] => (0, 0)
  | c :: r => if c < 32 then (0, 0) else if c = 92 then escape r else (c, 1)

theorem escape_le (s : List UInt8) : (escape s).2 ≤ s.length + 1 := by
  unfold escape
  split
  · simp
  · rename_i e r
    simp only [List.length_cons]
    repeat' split
    all_goals (try simp only [List.length_cons]) <;> omega
theorem inside_le (s : List UInt8) : (inside s).2 ≤ s.length := by
  unfold inside
  split
  · simp
  · rename_i c r
    have := escape_le r
    simp only [List.length_cons]
    repeat' split
    all_goals omega

/-- What stands up to the quote q, and how many bytes it takes with that quote. -/
def quoted (q : UInt8) (s : List UInt8) : Option (List UInt8 × Nat) :=
  match s with
  | [] => none
  | c :: r =>
    if c = q then some ([], 1)
    else if _h : 0 < (inside (c :: r)).2 then
      match quoted q ((c :: r).drop (inside (c :: r)).2) with
      | none => none
      | some (t, k) => some ((inside (c :: r)).1 :: t, (inside (c :: r)).2 + k)
    else none
  termination_by s.length
  decreasing_by simp only [List.length_drop, List.length_cons]; omega

/-- What is found at the beginning: a token, or an error. -/
inductive Fd where
  | tok (kind : Nat) (text : List UInt8) (size : Nat)
  | bad (err : Nat)
deriving DecidableEq

def nameKind (t : List UInt8) : Nat := if !isLower (t.headD 0) then 3 else if words.contains t then 6 else 2
def readName (s : List UInt8) : Fd := if 40 < span isName s then .bad 201 else .tok (nameKind (s.take (span isName s))) (s.take (span isName s)) (span isName s)
def runsOn : List UInt8 → Bool
  | [] => false
  | c :: _ => isLetter c || isJoint c
def readDigits (s : List UInt8) : Fd := if runsOn (s.drop (span isDigit s)) || 400 < span isDigit s then .bad 201 else .tok 1 (s.take (span isDigit s)) (span isDigit s)
def readQuoted (s : List UInt8) (kind most : Nat) : Fd :=
  match quoted (s.headD 0) s.tail with
  | none => .bad 201
  | some (t, k) => if most < t.length then .bad 201 else .tok kind t (k + 1)
def longest (s : List UInt8) (l : List (List UInt8)) (best : List UInt8) : List UInt8 := l.foldl (fun b g => if b.length < g.length && g.isPrefixOf s then g else b) best
def readSign (s : List UInt8) : Fd := if (longest s signs []).isEmpty then .bad 200 else .tok 5 (longest s signs []) (longest s signs []).length

def read (s : List UInt8) : Fd :=
  match s with
  | [] => .bad 0
  | c :: r =>
    if isLetter c || c == 95 then readName (c :: r)
    else if isDigit c then readDigits (c :: r)
    else if c = 39 then readQuoted (c :: r) 2 40
    else if c = 34 then readQuoted (c :: r) 4 400
    else if c == 46 && (r.isEmpty || decide (0 < gap (r.take 1))) then .tok 7 [46] 1
    else readSign (c :: r)

structure Tok where
  kind : Nat
  text : List UInt8
  place : Nat
deriving DecidableEq

/-- What is told: tokens, or a fault. -/
inductive Told where
  | ok (l : List Tok)
  | fault (err place : Nat)
deriving DecidableEq

def Told.cons (t : Tok) : Told → Told
  | .ok l => .ok (t :: l)
  | .fault e k => .fault e k

/-- The tokens of what begins with none of blanks and comments. -/
def toks (place : Nat) (s : List UInt8) : Told :=
  match s with
  | [] => .ok [⟨8, [], place⟩]
  | c :: r =>
    match read (c :: r) with
    | .bad e => .fault e place
    | .tok k t n =>
      if _h : 0 < n then
        (toks (place + n + gap ((c :: r).drop n)) (((c :: r).drop n).drop (gap ((c :: r).drop n)))).cons ⟨k, t, place⟩
      else .fault 0 place
  termination_by s.length
  decreasing_by simp only [List.length_drop, List.length_cons]; omega
/-- The tokens of whatever. -/
def toksG (place : Nat) (s : List UInt8) : Told := toks (place + gap s) (s.drop (gap s))
def tokens (s : List UInt8) : Told := if 65536 < s.length then .fault 3 0 else toksG 0 s

example : tokens "f(X) -> 'a b'. % end".toUTF8.data.toList = .ok [⟨2, [102], 0⟩, ⟨5, [40], 1⟩, ⟨3, [88], 2⟩, ⟨5, [41], 3⟩, ⟨5, [45, 62], 5⟩, ⟨2, [97, 32, 98], 8⟩, ⟨7, [46], 13⟩, ⟨8, [], 20⟩] := by
  decide +kernel

end Go.Proofs.YtiapdapkklcliaaGreatDoor.Sc
