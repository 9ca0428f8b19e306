import Derived.WalkKit
import Derived.Lib.ParseIntB
import Derived.Test.YtmekcccmnkgodaaGreatDoorCards
import Derived.Test.YtmekcccmnkgodaaGreatDoorTie
import Derived.Lib.LaidTab
import Derived.Handy
import Derived.Laws.Tables
import Derived.RangeFuncRecord
namespace Go.Proofs.YtmekcccmnkgodaaGreatDoor

abbrev Bs := List UInt8

/-! ### the chapter's words, on numbers 0 .. 255 -/
def isL (c : Nat) : Bool := decide (97 ≤ c) && decide (c ≤ 122) || decide (65 ≤ c) && decide (c ≤ 90)
def isD (c : Nat) : Bool := decide (48 ≤ c) && decide (c ≤ 57)
def inN (c : Nat) : Bool := isL c || isD c || c == 95
def pL (c : UInt8) : Bool := isL c.toNat
def pD (c : UInt8) : Bool := isD c.toNat
def pN (c : UInt8) : Bool := inN c.toNat
def pC (c : UInt8) : Bool := c.toNat != 10

def words : List Bs := [[115,101,101,100],[108,111,111,107],[101,110,100],[98,117,100,103,101,116],[102,117,101,108],[99,111,110,115,116],[107,105,110,100],[116,121,112,101],[118,97,114],[111,110],[112,108,97,99,101],[115,116,97,114,116],[108,101,116],[105,102],[101,108,115,101],[119,104,105,108,101],[98,114,101,97,107],[99,111,110,116,105,110,117,101],[114,101,116,117,114,110],[115,101,110,100],[116,111],[97,102,116,101,114],[97,116],[102,97,105,108],[110,111,119],[109,101],[102,114,111,109],[114,111,108,108],[109,105,110],[109,97,120],[119,97,105,116]]
def marks : List Bs := [[40],[41],[91],[93],[123],[125],[44],[58],[61],[],[124,124],[38,38],[61,61],[33,61],[60],[60,61],[62],[62,61],[124],[94],[38],[60,60],[62,62],[43],[45],[42],[47],[37],[33],[126]]
/-- the spelling of a kind; [] : none -/
def spl (k : Nat) : Bs := if k < 10 then [] else if k < 50 then (words[k - 10]?).getD [] else (marks[k - 50]?).getD []

/-- the kind of a name: a word's, or 1 -/
def wdK (t : Bs) : Nat → Nat → Nat
  | 0, _ => 1
  | n + 1, k => if spl k = t then k else wdK t n (k + 1)
def wordK (t : Bs) : Nat := wdK t 31 10
/-- the kind of a mark; 0: none -/
def mkK (t : Bs) : Nat → Nat → Nat
  | 0, _ => 0
  | n + 1, k => if spl k = t then k else mkK t n (k + 1)
def markK (t : Bs) : Nat := mkK t 30 50
/-- how long the longest mark is that may stand at the front -/
def markL : Bs → Nat
  | c :: d :: _ => if (c.toNat = 60 ∨ c.toNat = 62 ∨ c.toNat = 124 ∨ c.toNat = 38) ∧ d.toNat = c.toNat then 2 else if (c.toNat = 60 ∨ c.toNat = 62 ∨ c.toNat = 61 ∨ c.toNat = 33) ∧ d.toNat = 61 then 2 else 1
  | _ => 1

inductive Rd where
  | err (e : Nat)
  | ok (k : Nat) (t : Bs) (v : Nat)

def headIs (p : UInt8 → Bool) : Bs → Bool
  | [] => false
  | c :: _ => p c

/-- what stands at the front of a text that neither is empty nor begins with blank or a comment -/
def rd (s : Bs) : Rd :=
  if headIs pL s then
    let t := s.takeWhile pN
    if t.length > 31 then .err 33 else .ok (wordK t) t 0
  else if headIs pD s then
    let t := s.takeWhile pD
    if headIs pN (s.drop t.length) then .err 32 else
    match Lib.parseUintB 64 t with
    | .ok u => .ok 2 t u
    | _ => .err 32
  else
    let t := s.take (markL s)
    if markK t = 0 then .err 31 else .ok (markK t) t 0

structure Tk where
  kind : Int
  text : Bs
  num : Nat
  line : Int
  col : Int
deriving DecidableEq

structure Er where
  code : Nat
  line : Nat
  col : Nat
deriving DecidableEq

def scan (s : Bs) (line col cnt : Nat) : List Tk × Option Er :=
  match s with
  | [] => ([], none)
  | c :: r =>
    if c.toNat = 10 then scan r (line + 1) 1 cnt
    else if c.toNat = 32 ∨ c.toNat = 9 ∨ c.toNat = 13 then scan r line (col + 1) cnt
    else if c.toNat = 35 then scan (r.drop (r.takeWhile pC).length) line (col + 1 + (r.takeWhile pC).length) cnt
    else match rd (c :: r) with
      | .err e => ([], some ⟨e, line, col⟩)
      | .ok k t v => if cnt = 16384 then ([], some ⟨34, line, col⟩) else
          ((⟨k, t, v, line, col⟩ : Tk) :: (scan (r.drop (t.length - 1)) line (col + t.length) (cnt + 1)).1, (scan (r.drop (t.length - 1)) line (col + t.length) (cnt + 1)).2)
termination_by s.length
decreasing_by all_goals simp <;> omega

def scanT (s : Bs) : List Tk × Option Er := if s.length > 65536 then ([], some ⟨30, 1, 1⟩) else scan s 1 1 0

theorem scan_nil (line col cnt : Nat) : scan [] line col cnt = ([], none) := by rw [scan]
theorem scan_nl (c : UInt8) (r : Bs) (line col cnt : Nat) (h : c.toNat = 10) : scan (c :: r) line col cnt = scan r (line + 1) 1 cnt := by rw [scan, if_pos h]
theorem scan_bl (c : UInt8) (r : Bs) (line col cnt : Nat) (h : c.toNat = 32 ∨ c.toNat = 9 ∨ c.toNat = 13) : scan (c :: r) line col cnt = scan r line (col + 1) cnt := by
  rw [scan, if_neg (by omega), if_pos h]
theorem scan_cm (c : UInt8) (r : Bs) (line col cnt : Nat) (h : c.toNat = 35) : scan (c :: r) line col cnt = scan (r.drop (r.takeWhile pC).length) line (col + 1 + (r.takeWhile pC).length) cnt := by
  rw [scan, if_neg (by omega), if_neg (by omega), if_pos h]
/-- what may begin a token -/
def startT (c : UInt8) : Prop := c.toNat ≠ 10 ∧ c.toNat ≠ 32 ∧ c.toNat ≠ 9 ∧ c.toNat ≠ 13 ∧ c.toNat ≠ 35
theorem scan_er (c : UInt8) (r : Bs) (line col cnt e : Nat) (h : startT c) (hr : rd (c :: r) = .err e) : scan (c :: r) line col cnt = ([], some ⟨e, line, col⟩) := by
  obtain ⟨h1, h2, h3, h4, h5⟩ := h
  rw [scan, if_neg h1, if_neg (by omega), if_neg h5, hr]
theorem scan_full (c : UInt8) (r : Bs) (line col k v : Nat) (t : Bs) (h : startT c) (hr : rd (c :: r) = .ok k t v) : scan (c :: r) line col 16384 = ([], some ⟨34, line, col⟩) := by
  obtain ⟨h1, h2, h3, h4, h5⟩ := h
  rw [scan, if_neg h1, if_neg (by omega), if_neg h5, hr]
  simp
theorem scan_ok (c : UInt8) (r : Bs) (line col cnt k v : Nat) (t : Bs) (h : startT c) (hr : rd (c :: r) = .ok k t v) (hc : cnt ≠ 16384) :
    scan (c :: r) line col cnt = ((⟨k, t, v, line, col⟩ : Tk) :: (scan (r.drop (t.length - 1)) line (col + t.length) (cnt + 1)).1, (scan (r.drop (t.length - 1)) line (col + t.length) (cnt + 1)).2) := by
  obtain ⟨h1, h2, h3, h4, h5⟩ := h
  rw [scan, if_neg h1, if_neg (by omega), if_neg h5, hr]
  simp [hc]

theorem markL_pos (s : Bs) : 1 ≤ markL s := by
  unfold markL
  split
  · split
    · omega
    · split <;> omega
  · omega
theorem take_markL (s : Bs) (h : s ≠ []) : 1 ≤ (s.take (markL s)).length := by
  have := markL_pos s
  have : 1 ≤ s.length := List.length_pos_iff.2 h
  simp
  omega
/-- a token is a front of the text, and is not empty -/
theorem rd_front (c : UInt8) (r : Bs) (k v : Nat) (t : Bs) (h : rd (c :: r) = .ok k t v) : (∃ u, c :: r = t ++ u) ∧ 1 ≤ t.length := by
  unfold rd at h
  split at h
  · rename_i hl
    simp only [headIs] at hl
    have hn : pN c = true := by unfold pN inN; unfold pL at hl; simp [hl]
    dsimp only at h
    split at h
    · cases h
    · cases h
      exact ⟨⟨_, (List.takeWhile_append_dropWhile (p := pN)).symm⟩, by simp [List.takeWhile, hn]⟩
  · split at h
    · rename_i hd
      simp only [headIs] at hd
      dsimp only at h
      split at h
      · cases h
      · split at h
        · cases h
          exact ⟨⟨_, (List.takeWhile_append_dropWhile (p := pD)).symm⟩, by simp [List.takeWhile, hd]⟩
        · cases h
    · dsimp only at h
      split at h
      · cases h
      · cases h
        exact ⟨⟨_, (List.take_append_drop _ _).symm⟩, take_markL _ (by simp)⟩
theorem rd_drop (c : UInt8) (r : Bs) (k v : Nat) (t : Bs) (h : rd (c :: r) = .ok k t v) : r.drop (t.length - 1) = (c :: r).drop t.length := by
  have h1 := (rd_front c r k v t h).2
  obtain ⟨n, hn⟩ : ∃ n, t.length = n + 1 := ⟨t.length - 1, by omega⟩
  rw [hn]
  rfl
theorem rd_len (c : UInt8) (r : Bs) (k v : Nat) (t : Bs) (h : rd (c :: r) = .ok k t v) : t.length ≤ (c :: r).length := by
  obtain ⟨⟨u, hu⟩, _⟩ := rd_front c r k v t h
  rw [hu]
  simp
theorem rd_code (s : Bs) (e : Nat) (h : rd s = .err e) : e = 31 ∨ e = 32 ∨ e = 33 := by
  unfold rd at h
  split at h
  · dsimp only at h
    split at h <;> cases h
    omega
  · split at h
    · dsimp only at h
      split at h
      · cases h; omega
      · split at h <;> cases h
        omega
    · dsimp only at h
      split at h <;> cases h
      omega

end Go.Proofs.YtmekcccmnkgodaaGreatDoor
namespace Go.Proofs.YtmekcccmnkgodaaGreatDoor
open Go.ChangeShapes Go.WideShapes Go.ChangeAt Go.RowKit
set_option linter.unusedVariables false

/-- the table of spellings, as the program holds it -/
def Sp (w : World) : Prop := ∀ k, k < 80 → w.cell? ⟨1, k, none⟩ = some (.string ⟨(spl k).toArray⟩)

theorem Sp.keep {w w' : World} (h : Sp w) (hb : Below w.heap.size w w') : Sp w' := by
  intro k hk
  have hc := h k hk
  have hlt : 1 < w.heap.size := by
    unfold World.cell? at hc
    cases hh : w.heap[1]? with
    | none => simp [hh] at hc
    | some o => exact (Array.getElem?_eq_some_iff.1 hh).1
  rw [hb.cell (p := ⟨1, k, none⟩) hlt]
  exact hc

def splAll : List Bs := (List.range 80).map spl
def spData : DataW Unit := .agg (splAll.map fun s => .lit (.string s))
theorem sp_data : (Rows.laid_horizon_lexer_spelling : DataW Unit) = spData := by kernel_rfl

/-- an array of strings that reads as the table holds it, cell for cell -/
theorem cells_of_strs {H : Type} {enc : TypeId × Value → H} {P : Program} {w : World} {base : Nat} {sp : Nat → Bool} {held : Bool} {fuel : Nat} {t e : TypeId} {n : Nat} {cs : List Value} {zs : List Bs} {p : List MemPlace}
    (ht : P.underlying t = some (.array n e)) (he : P.underlying e = some .string) (hce : P.cellsOf e = 1) (hct : P.cellsOf t = n)
    (h : DataW.trod enc P w base sp held fuel t cs = some (.agg (zs.map fun z => .lit (.string z)), p)) : ∀ i, i < zs.length → cs[i]? = some (.string ⟨(zs.getD i []).toArray⟩) := by
  cases fuel with
  | zero => simp [DataW.trod] at h
  | succ fuel =>
    simp only [DataW.trod, ht, hce, hct, Nat.mul_one] at h
    split at h
    · rename_i hl
      obtain ⟨xs, hm, hx⟩ := Option.map_eq_some_iff.1 h
      have hxs : xs.map (·.1) = zs.map fun z => (DataW.lit (.string z) : DataW H) := by
        have := congrArg Prod.fst hx
        simpa using this
      have hxl : xs.length = n := by simpa using Lib.mapM_length hm
      have hzl : zs.length = n := by
        have := congrArg List.length hxs
        simp at this
        omega
      intro i hi
      have hi2 : i < n := by omega
      obtain ⟨b, hb, hf⟩ := Lib.mapM_at hm i i (by simp [hi2])
      obtain ⟨s, hc, rfl, _⟩ := DataW.trod_string he hf
      have h1 : cs[i]? = some (.string s) := by
        have := congrArg (·[0]?) hc
        simpa [List.getElem?_take, List.getElem?_drop] using this
      have h2 : (xs.map (·.1))[i]? = some (DataW.lit (.string s.data.toList) : DataW H) := by simp [hb]
      rw [hxs] at h2
      simp only [List.getElem?_map, Option.map_eq_some_iff, DataW.lit.injEq, Lit.string.injEq] at h2
      obtain ⟨z', hz', hz2⟩ := h2
      rw [h1]
      simp only [List.getD, hz', Option.getD_some, hz2]
    · cases h

theorem splAll_getD (k : Nat) (h : k < 80) : splAll.getD k [] = spl k := by
  simp [splAll, List.getD, h]

theorem sp_of_head {W : World} {rest : List (String × DataW Unit)} (h : laidMet Tryz.prog (("horizon/lexer.spelling", Rows.laid_horizon_lexer_spelling) :: rest) W) : Sp W := by
  rw [sp_data] at h
  obtain ⟨ps, ⟨g', t', cs, fuel, p, q, hg', ht', hvar, hd, _, _⟩, _⟩ := h
  have hg : Tryz.prog.globalNamed "horizon/lexer.spelling" = some 1 := by kernel_rfl
  have hty : (Tryz.prog.globals[1]?).map (·.type) = some 84 := by kernel_rfl
  obtain rfl := Option.some.inj (hg.symm.trans hg')
  obtain rfl := Option.some.inj (hty.symm.trans ht')
  intro k hk
  have := World.var?_cell hg hvar k
  rw [this]
  have hc := cells_of_strs Tryz.underlying84 Tryz.underlying9 (by kernel_rfl) (by kernel_rfl) hd k (by simp [splAll]; exact hk)
  rw [splAll_getD k hk] at hc
  simpa using hc

end Go.Proofs.YtmekcccmnkgodaaGreatDoor
namespace Go.Proofs.YtmekcccmnkgodaaGreatDoor
open Go.ChangeShapes Go.WideShapes Go.ChangeAt Go.RowKit
set_option linter.unusedVariables false

/-- a kind's spelling, whatever the number -/
def splI (k : Int) : Bs := if 0 ≤ k ∧ k < 80 then spl k.toNat else []

theorem mark_any (k : Int) (w : World) (g : Sp w) :
    Calls Tryz.prog 12 #[.int .i64 k] w fun e w' => e = .returned (.string ⟨(splI k).toArray⟩) ∧ w' = w := by
  by_cases h0 : k < 0
  · have d0 : decide (k < 0) = true := decide_eq_true h0
    have e : splI k = [] := by unfold splI; rw [if_neg (by omega)]
    rw [e]
    go_enter Tryz.func12, Tryz.ntmps12
    go_wp2
    go_ret
    exact ⟨rfl, rfl⟩
  · by_cases h1 : 80 ≤ k
    · have d0 : decide (k < 0) = false := decide_eq_false h0
      have d1 : decide (k ≥ 80) = true := decide_eq_true h1
      have e : splI k = [] := by unfold splI; rw [if_neg (by omega)]
      rw [e]
      go_enter Tryz.func12, Tryz.ntmps12
      go_wp2
      go_ret
      exact ⟨rfl, rfl⟩
    · obtain ⟨n, rfl⟩ := Int.eq_ofNat_of_zero_le (by omega : 0 ≤ k)
      have hn : n < 80 := by omega
      have e : splI n = spl n := by unfold splI; rw [if_pos (by omega)]; rfl
      rw [e]
      have hc := g n hn
      go_enter Tryz.func12, Tryz.ntmps12
      go_wp2
      go_ret
      exact ⟨rfl, rfl⟩

def wdI (k : Int) : Bs := if 10 ≤ k ∧ k < 41 then spl k.toNat else []
def mkI (k : Int) : Bs := if 50 ≤ k ∧ k < 80 then spl k.toNat else []

/-- a built table by its name -/
theorem wpList_buildTo {P : Program} {ops : Array Oper} {rest : List Oper} {o : Oper} {a : Act} {w : World} {Q : Exit → Act → World → Prop} (hg : o.guard = none) (t : TypeId) (parts : Array (Nat × Operand)) (ho : o.op = .build t parts)
    (cells : Array Value) (hc : P.built t (parts.map fun (i, x) => (i, a.eval x)).toList = some cells)
    (h : wpList P ops Q rest (a.put o.dst (.agg cells)) w) : wpList P ops Q (o :: rest) a w :=
  wpList_build hg t parts ho (by rw [hc]; rfl) (by rw [hc]; exact h)

def strs (zs : List Bs) : Array Value := (zs.map fun z => Value.string ⟨z.toArray⟩).toArray
def wordsA : Array Value := strs words
def marksA : Array Value := strs marks

theorem tab_world (w : World) (old : Array Value) (t : TypeId) (zs : List Bs) (S : Array Value) (hS : S = strs zs) : ∃ w2, (w.alloc (.cells old t)).setRow w.heap.size S = w2 ∧
    (∀ i, i < zs.length → w2.cell? ⟨w.heap.size, i, none⟩ = some (.string ⟨(zs.getD i []).toArray⟩)) ∧ Below w.heap.size w w2 := by
  subst hS
  refine ⟨_, rfl, fun i hi => ?_, ?_⟩
  · rw [cell_setRow_same _ _ _ _ _ _ _ (World.alloc_heap_new w _)]
    simp [strs, hi]
  · refine ⟨rfl, rfl, rfl, by simp, fun k hk => ?_⟩
    rw [setRow_other _ _ _ _ (by omega)]
    exact Below.heap_alloc w _ k hk

theorem words_getD (n : Nat) (h : 10 ≤ n) (h2 : n < 41) : words.getD (n - 10) [] = spl n := by
  unfold spl
  rw [if_neg (by omega), if_pos (by omega)]
  rfl
theorem marks_getD (n : Nat) (h : 50 ≤ n) (h2 : n < 80) : marks.getD (n - 50) [] = spl n := by
  unfold spl
  rw [if_neg (by omega), if_neg (by omega)]
  rfl



end Go.Proofs.YtmekcccmnkgodaaGreatDoor
namespace Go.Proofs.YtmekcccmnkgodaaGreatDoor
/-- no token -/
def nT : Tk := ⟨0, [], 0, 0, 0⟩
end Go.Proofs.YtmekcccmnkgodaaGreatDoor
