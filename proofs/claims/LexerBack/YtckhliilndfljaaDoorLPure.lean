import Derived.WalkKit
import Derived.Lib.ParseIntB
namespace Go.Proofs.YtckhliilndfljaaDoor

abbrev Bs := List UInt8

/-! ### the chapter's words, on numbers 0 .. 255 -/
def isL (c : Nat) : Bool := decide (97 ≤ c) && decide (c ≤ 122) || decide (65 ≤ c) && decide (c ≤ 90)
def isD (c : Nat) : Bool := decide (48 ≤ c) && decide (c ≤ 57)
def inN (c : Nat) : Bool := isL c || isD c || c == 95
def pL (c : UInt8) : Bool := isL c.toNat
def pD (c : UInt8) : Bool := isD c.toNat
def pN (c : UInt8) : Bool := inN c.toNat
def pC (c : UInt8) : Bool := c.toNat != 10

def words : List Bs := [[115,101,101,100],[108,111,111,107],[101,110,100],[98,117,100,103,101,116],[102,117,101,108],[99,111,110,115,116],[107,105,110,100],[116,121,112,101],[118,97,114],[111,110],[112,108,97,99,101],[115,116,97,114,116],[108,101,116],[105,102],[101,108,115,101],[119,104,105,108,101],[98,114,101,97,107],[99,111,110,116,105,110,117,101],[114,101,116,117,114,110],[115,101,110,100],[116,111],[97,102,116,101,114],[97,116],[102,97,105,108],[110,111,119],[109,101],[102,114,111,109],[114,111,108,108],[109,105,110],[109,97,120],[119,97,105,116]]
def marks : List Bs := [[40],[41],[91],[93],[123],[125],[44],[58],[61],[],[124,124],[38,38],[61,61],[33,61],[60],[60,61],[62],[62,61],[124],[94],[38],[60,60],[62,62],[43],[45],[42],[47],[37],[33],[126]]
/-- the spelling of a kind; [] : none -/
def spl (k : Nat) : Bs := if k < 10 then [] else if k < 50 then (words[k - 10]?).getD [] else (marks[k - 50]?).getD []

/-- the kind of a name: a word's, or 1 -/
def wdK (t : Bs) : Nat → Nat → Nat
  | 0, _ => 1
  | n + 1, k => if spl k = t then k else wdK t n (k + 1)
def wordK (t : Bs) : Nat := wdK t 31 10
/-- the kind of a mark; 0: none -/
def mkK (t : Bs) : Nat → Nat → Nat
  | 0, _ => 0
  | n + 1, k => if spl k = t then k else mkK t n (k + 1)
def markK (t : Bs) : Nat := mkK t 30 50
/-- how long the longest mark is that may stand at the front -/
def markL : Bs → Nat
  | c :: d :: _ => if (c.toNat = 60 ∨ c.toNat = 62 ∨ c.toNat = 124 ∨ c.toNat = 38) ∧ d.toNat = c.toNat then 2 else if (c.toNat = 60 ∨ c.toNat = 62 ∨ c.toNat = 61 ∨ c.toNat = 33) ∧ d.toNat = 61 then 2 else 1
  | _ => 1

inductive Rd where
  | err (e : Nat)
  | ok (k : Nat) (t : Bs) (v : Nat)

def headIs (p : UInt8 → Bool) : Bs → Bool
  | [] => false
  | c :: _ => p c

/-- what stands at the front of a text that neither is empty nor begins with blank or a comment -/
def rd (s : Bs) : Rd :=
  if headIs pL s then
    let t := s.takeWhile pN
    if t.length > 31 then .err 33 else .ok (wordK t) t 0
  else if headIs pD s then
    let t := s.takeWhile pD
    if headIs pN (s.drop t.length) then .err 32 else
    match Lib.parseUintB 64 t with
    | .ok u => .ok 2 t u
    | _ => .err 32
  else
    let t := s.take (markL s)
    if markK t = 0 then .err 31 else .ok (markK t) t 0

structure Tk where
  kind : Int
  text : Bs
  num : Nat
  line : Int
  col : Int
deriving DecidableEq

structure Er where
  code : Nat
  line : Nat
  col : Nat
deriving DecidableEq

def scan (s : Bs) (line col cnt : Nat) : List Tk × Option Er :=
  match s with
  | [] => ([], none)
  | c :: r =>
    if c.toNat = 10 then scan r (line + 1) 1 cnt
    else if c.toNat = 32 ∨ c.toNat = 9 ∨ c.toNat = 13 then scan r line (col + 1) cnt
    else if c.toNat = 35 then scan (r.drop (r.takeWhile pC).length) line (col + 1 + (r.takeWhile pC).length) cnt
    else match rd (c :: r) with
      | .err e => ([], some ⟨e, line, col⟩)
      | .ok k t v => if cnt = 16384 then ([], some ⟨34, line, col⟩) else
          ((⟨k, t, v, line, col⟩ : Tk) :: (scan (r.drop (t.length - 1)) line (col + t.length) (cnt + 1)).1, (scan (r.drop (t.length - 1)) line (col + t.length) (cnt + 1)).2)
termination_by s.length
decreasing_by all_goals simp <;> omega

def scanT (s : Bs) : List Tk × Option Er := if s.length > 65536 then ([], some ⟨30, 1, 1⟩) else scan s 1 1 0

theorem scan_nil (line col cnt : Nat) : scan [] line col cnt = ([], none) := by rw [scan]
theorem scan_nl (c : UInt8) (r : Bs) (line col cnt : Nat) (h : c.toNat = 10) : scan (c :: r) line col cnt = scan r (line + 1) 1 cnt := by rw [scan, if_pos h]
theorem scan_bl (c : UInt8) (r : Bs) (line col cnt : Nat) (h : c.toNat = 32 ∨ c.toNat = 9 ∨ c.toNat = 13) : scan (c :: r) line col cnt = scan r line (col + 1) cnt := by
  rw [scan, if_neg (by omega), if_pos h]
theorem scan_cm (c : UInt8) (r : Bs) (line col cnt : Nat) (h : c.toNat = 35) : scan (c :: r) line col cnt = scan (r.drop (r.takeWhile pC).length) line (col + 1 + (r.takeWhile pC).length) cnt := by
  rw [scan, if_neg (by omega), if_neg (by omega), if_pos h]
/-- what may begin a token -/
def startT (c : UInt8) : Prop := c.toNat ≠ 10 ∧ c.toNat ≠ 32 ∧ c.toNat ≠ 9 ∧ c.toNat ≠ 13 ∧ c.toNat ≠ 35
theorem scan_er (c : UInt8) (r : Bs) (line col cnt e : Nat) (h : startT c) (hr : rd (c :: r) = .err e) : scan (c :: r) line col cnt = ([], some ⟨e, line, col⟩) := by
  obtain ⟨h1, h2, h3, h4, h5⟩ := h
  rw [scan, if_neg h1, if_neg (by omega), if_neg h5, hr]
theorem scan_full (c : UInt8) (r : Bs) (line col k v : Nat) (t : Bs) (h : startT c) (hr : rd (c :: r) = .ok k t v) : scan (c :: r) line col 16384 = ([], some ⟨34, line, col⟩) := by
  obtain ⟨h1, h2, h3, h4, h5⟩ := h
  rw [scan, if_neg h1, if_neg (by omega), if_neg h5, hr]
  simp
theorem scan_ok (c : UInt8) (r : Bs) (line col cnt k v : Nat) (t : Bs) (h : startT c) (hr : rd (c :: r) = .ok k t v) (hc : cnt ≠ 16384) :
    scan (c :: r) line col cnt = ((⟨k, t, v, line, col⟩ : Tk) :: (scan (r.drop (t.length - 1)) line (col + t.length) (cnt + 1)).1, (scan (r.drop (t.length - 1)) line (col + t.length) (cnt + 1)).2) := by
  obtain ⟨h1, h2, h3, h4, h5⟩ := h
  rw [scan, if_neg h1, if_neg (by omega), if_neg h5, hr]
  simp [hc]

theorem markL_pos (s : Bs) : 1 ≤ markL s := by
  unfold markL
  split
  · split
    · omega
    · split <;> omega
  · omega
theorem take_markL (s : Bs) (h : s ≠ []) : 1 ≤ (s.take (markL s)).length := by
  have := markL_pos s
  have : 1 ≤ s.length := List.length_pos_iff.2 h
  simp
  omega
/-- a token is a front of the text, and is not empty -/
theorem rd_front (c : UInt8) (r : Bs) (k v : Nat) (t : Bs) (h : rd (c :: r) = .ok k t v) : (∃ u, c :: r = t ++ u) ∧ 1 ≤ t.length := by
  unfold rd at h
  split at h
  · rename_i hl
    simp only [headIs] at hl
    have hn : pN c = true := by unfold pN inN; unfold pL at hl; simp [hl]
    dsimp only at h
    split at h
    · cases h
    · cases h
      exact ⟨⟨_, (List.takeWhile_append_dropWhile (p := pN)).symm⟩, by simp [List.takeWhile, hn]⟩
  · split at h
    · rename_i hd
      simp only [headIs] at hd
      dsimp only at h
      split at h
      · cases h
      · split at h
        · cases h
          exact ⟨⟨_, (List.takeWhile_append_dropWhile (p := pD)).symm⟩, by simp [List.takeWhile, hd]⟩
        · cases h
    · dsimp only at h
      split at h
      · cases h
      · cases h
        exact ⟨⟨_, (List.take_append_drop _ _).symm⟩, take_markL _ (by simp)⟩
theorem rd_drop (c : UInt8) (r : Bs) (k v : Nat) (t : Bs) (h : rd (c :: r) = .ok k t v) : r.drop (t.length - 1) = (c :: r).drop t.length := by
  have h1 := (rd_front c r k v t h).2
  obtain ⟨n, hn⟩ : ∃ n, t.length = n + 1 := ⟨t.length - 1, by omega⟩
  rw [hn]
  rfl
theorem rd_len (c : UInt8) (r : Bs) (k v : Nat) (t : Bs) (h : rd (c :: r) = .ok k t v) : t.length ≤ (c :: r).length := by
  obtain ⟨⟨u, hu⟩, _⟩ := rd_front c r k v t h
  rw [hu]
  simp
theorem rd_code (s : Bs) (e : Nat) (h : rd s = .err e) : e = 31 ∨ e = 32 ∨ e = 33 := by
  unfold rd at h
  split at h
  · dsimp only at h
    split at h <;> cases h
    omega
  · split at h
    · dsimp only at h
      split at h
      · cases h; omega
      · split at h <;> cases h
        omega
    · dsimp only at h
      split at h <;> cases h
      omega

end Go.Proofs.YtckhliilndfljaaDoor
