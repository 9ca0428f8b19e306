import Derived.Test.YtmekcccmnkgodaaGreatDoorFLWord
namespace Go.Proofs.YtmekcccmnkgodaaGreatDoor
open Go.ChangeShapes Go.WideShapes Go.ChangeAt Go.RowKit
set_option linter.unusedVariables false
set_option linter.unusedSimpArgs false

/-! ### the grammar, plainly: tokens X 0 .. X (n - 1) are read from the front -/
structure Nd where
  kind : Int
  name : Bs
  num : Nat
  op : Int
  kids : List Nat
  line : Int
  col : Int
deriving DecidableEq
structure St where
  nx : Nat
  dp : Nat
  md : List Nd
deriving DecidableEq
/-- what goes wrong: at which token, where, and what -/
structure Pe where
  idx : Nat
  line : Int
  col : Int
  code : Int
deriving DecidableEq
inductive Pr (α : Type) where
  | out
  | bad (e : Pe)
  | ok (s : St) (v : α)
def Pr.bind {α β : Type} (r : Pr α) (k : St → α → Pr β) : Pr β := match r with
  | .out => .out
  | .bad e => .bad e
  | .ok s v => k s v
inductive Mt where
  | bin (st : Nat)
  | binL (st : Nat) (left : Nat)
  | una
  | atom
  | named
  | throw (q : Int)
  | choice (q : Int)
  | brack
  | index
  | value
  | name (q : Int)
  | scene
  | sceneL (l : List Nat)
  | item
  | setting
  | constant
  | kinds
  | kindsL (l : List Nat)
  | ptype
  | memL (l : List Nat)
  | member
  | vari
  | handler
  | place
  | gives
  | givesL (l : List Nat)
  | give
  | start
  | block
  | blockL (l : List Nat)
  | stmt
  | set
  | branch (t : Tk)
  | otherwise
  | send
def kd (X : Nat → Tk) (n : Nat) (s : St) : Int := if s.nx = n then 0 else (X s.nx).kind
def refu (X : Nat → Tk) (n : Nat) (s : St) : Pe := if s.nx < n then ⟨s.nx, (X s.nx).line, (X s.nx).col, 40⟩ else ⟨n, (X (n - 1)).line, wrap64 ((X (n - 1)).col + ((X (n - 1)).text.length : Int)), 41⟩
def take (X : Nat → Tk) (n : Nat) (k : Int) (s : St) : Pr Tk :=
  if s.nx < n ∧ (X s.nx).kind = k then (if k = 1 ∧ wordP (X s.nx).text ≠ 1 then .bad (refu X n s) else .ok ⟨s.nx + 1, s.dp, s.md⟩ (X s.nx)) else .bad (refu X n s)
def enter (X : Nat → Tk) (n : Nat) (k : Int) (s : St) : Pr Tk := (take X n k s).bind fun s1 t => if 48 < s1.dp + 1 then .bad ⟨s.nx, t.line, t.col, 42⟩ else .ok ⟨s1.nx, s1.dp + 1, s1.md⟩ t
def leave (X : Nat → Tk) (n : Nat) (k : Int) (s : St) : Pr Unit := (take X n k s).bind fun s1 _ => .ok ⟨s1.nx, s1.dp - 1, s1.md⟩ ()
def add (t : Tk) (kind : Int) (name : Bs) (num : Nat) (op : Int) (kids : List Nat) (s : St) : Pr (List Nat) := .ok ⟨s.nx, s.dp, s.md ++ [⟨kind, name, num, op, kids, t.line, t.col⟩]⟩ [s.md.length]
def bindsP (k : Int) : Nat :=
  if k = 60 then 1 else if k = 61 then 2 else if 62 ≤ k ∧ k ≤ 67 then 3 else if k = 68 then 4 else if k = 69 then 5 else if k = 70 then 6 else if k = 71 ∨ k = 72 then 7 else if k = 73 ∨ k = 74 then 8 else if k = 75 ∨ k = 76 ∨ k = 77 then 9 else 0
def isUn (k : Int) : Bool := decide (k = 74) || (decide (k = 78) || decide (k = 79))
def hd (l : List Nat) : Nat := l.headD 0
def P (X : Nat → Tk) (n : Nat) : Nat → Mt → St → Pr (List Nat)
  | 0, _, _ => .out
  | f + 1, m, s => match m with
    | .bin st => if st = 10 then (P X n f .una s) else ((P X n f (.bin (st + 1)) s).bind fun s1 l => P X n f (.binL st (hd l)) s1)
    | .binL st left => if bindsP (kd X n s) = st then ((take X n (kd X n s) s).bind fun s1 o => (P X n f (.bin (st + 1)) s1).bind fun s2 r => (add o 43 [] 0 o.kind [left, hd r] s2).bind fun s3 v => if st = 3 then (.ok s3 v) else (P X n f (.binL st (hd v)) s3)) else (.ok s [left])
    | .una => if isUn (kd X n s) = true then ((enter X n (kd X n s) s).bind fun s1 o => (P X n f (.una) s1).bind fun s2 a => add o 44 [] 0 o.kind [hd a] ⟨s2.nx, s2.dp - 1, s2.md⟩) else (P X n f .atom s)
    | .atom => if kd X n s = 2 then ((take X n 2 s).bind fun s1 t => add t 40 [] t.num 0 [] s1) else (if kd X n s = 1 then (P X n f .named s) else (if kd X n s = 34 then ((take X n 34 s).bind fun s1 t => add t 45 [] 0 0 [] s1) else (if kd X n s = 35 then ((take X n 35 s).bind fun s1 t => add t 46 [] 0 0 [] s1) else (if kd X n s = 36 then ((take X n 36 s).bind fun s1 t => add t 47 [] 0 0 [] s1) else (if kd X n s = 37 then (P X n f (.throw 48) s) else (if kd X n s = 40 then (P X n f (.throw 51) s) else (if kd X n s = 38 then (P X n f (.choice 49) s) else (if kd X n s = 39 then (P X n f (.choice 50) s) else (if kd X n s = 50 then (P X n f .brack s) else (.bad (refu X n s)))))))))))
    | .named => (take X n 1 s).bind fun s1 t => (P X n f (.index) s1).bind fun s2 l => add t (if l = [] then 41 else 42) t.text 0 0 l s2
    | .throw q => (take X n (kd X n s) s).bind fun s1 t => (P X n f (.brack) s1).bind fun s2 l => add t q [] 0 0 [hd l] s2
    | .choice q => (take X n (kd X n s) s).bind fun s1 t => (enter X n 50 s1).bind fun s2 _ => (P X n f (.bin 1) s2).bind fun s3 a => (take X n 56 s3).bind fun s4 _ => (P X n f (.bin 1) s4).bind fun s5 b => (leave X n 51 s5).bind fun s6 _ => add t q [] 0 0 [hd a, hd b] s6
    | .brack => (enter X n 50 s).bind fun s1 _ => (P X n f (.bin 1) s1).bind fun s2 a => (leave X n 51 s2).bind fun s3 _ => .ok s3 a
    | .index => if kd X n s = 52 then ((enter X n 52 s).bind fun s1 _ => (P X n f (.bin 1) s1).bind fun s2 a => (leave X n 53 s2).bind fun s3 _ => .ok s3 [hd a]) else (.ok s [])
    | .value => (take X n 58 s).bind fun s1 _ => P X n f (.bin 1) s1
    | .name q => (take X n 1 s).bind fun s1 t => add t q t.text 0 0 [] s1
    | .scene => P X n f (.sceneL []) s
    | .sceneL l => if s.nx < n then ((P X n f (.item) s).bind fun s1 a => P X n f (.sceneL (l ++ [hd a])) s1) else (add ⟨0, [], 0, 1, 1⟩ 1 [] 0 0 l s)
    | .item => if 10 ≤ kd X n s ∧ kd X n s ≤ 14 then (P X n f .setting s) else (if kd X n s = 15 then (P X n f .constant s) else (if kd X n s = 16 then (P X n f .kinds s) else (if kd X n s = 17 then (P X n f .ptype s) else (if kd X n s = 20 then (P X n f .place s) else (if kd X n s = 21 then (P X n f .start s) else (.bad (refu X n s)))))))
    | .setting => (take X n (kd X n s) s).bind fun s1 t => (take X n 2 s1).bind fun s2 u => add t 2 [] u.num t.kind [] s2
    | .constant => (take X n 15 s).bind fun s1 t => (take X n 1 s1).bind fun s2 u => (P X n f (.value) s2).bind fun s3 a => add t 3 u.text 0 0 [hd a] s3
    | .kinds => (take X n 16 s).bind fun s1 t => (P X n f (.name 5) s1).bind fun s2 a => (P X n f (.kindsL [hd a]) s2).bind fun s3 l => add t 4 [] 0 0 l s3
    | .kindsL l => if kd X n s = 56 then ((take X n 56 s).bind fun s1 _ => (P X n f (.name 5) s1).bind fun s2 a => P X n f (.kindsL (l ++ [hd a])) s2) else (.ok s l)
    | .ptype => (take X n 17 s).bind fun s1 t => (take X n 1 s1).bind fun s2 u => (enter X n 54 s2).bind fun s3 _ => (P X n f (.memL []) s3).bind fun s4 l => (leave X n 55 s4).bind fun s5 _ => add t 6 u.text 0 0 l s5
    | .memL l => if kd X n s = 55 then (.ok s l) else ((P X n f (.member) s).bind fun s1 a => P X n f (.memL (l ++ [hd a])) s1)
    | .member => if kd X n s = 18 then (P X n f .vari s) else (if kd X n s = 19 then (P X n f .handler s) else (.bad (refu X n s)))
    | .vari => (take X n 18 s).bind fun s1 t => (take X n 1 s1).bind fun s2 u => (P X n f (.index) s2).bind fun s3 l => if kd X n s3 = 58 then ((P X n f (.value) s3).bind fun s4 a => add t 7 u.text 0 ((l.length : Int) + 2) (l ++ [hd a]) s4) else (add t 7 u.text 0 (l.length : Int) l s3)
    | .handler => (take X n 19 s).bind fun s1 t => (take X n 1 s1).bind fun s2 u => (enter X n 50 s2).bind fun s3 _ => (P X n f (.name 41) s3).bind fun s4 d => (leave X n 51 s4).bind fun s5 _ => (P X n f (.block) s5).bind fun s6 b => add t 8 u.text 0 0 [hd d, hd b] s6
    | .place => (take X n 20 s).bind fun s1 t => (take X n 1 s1).bind fun s2 u => (P X n f (.index) s2).bind fun s3 l => (take X n 57 s3).bind fun s4 _ => (P X n f (.name 41) s4).bind fun s5 a => if kd X n s5 = 50 then ((P X n f (.gives) s5).bind fun s6 g => add t 9 u.text 0 (l.length : Int) (l ++ [hd a] ++ g) s6) else (add t 9 u.text 0 (l.length : Int) (l ++ [hd a]) s5)
    | .gives => (enter X n 50 s).bind fun s1 _ => (P X n f (.give) s1).bind fun s2 a => (P X n f (.givesL [hd a]) s2).bind fun s3 l => (leave X n 51 s3).bind fun s4 _ => .ok s4 l
    | .givesL l => if kd X n s = 56 then ((take X n 56 s).bind fun s1 _ => (P X n f (.give) s1).bind fun s2 a => P X n f (.givesL (l ++ [hd a])) s2) else (.ok s l)
    | .give => (take X n 1 s).bind fun s1 t => (P X n f (.index) s1).bind fun s2 l => (P X n f (.value) s2).bind fun s3 a => add t 10 t.text 0 (l.length : Int) (l ++ [hd a]) s3
    | .start => (take X n 21 s).bind fun s1 t => (take X n 1 s1).bind fun s2 u => (P X n f (.brack) s2).bind fun s3 a => (take X n 30 s3).bind fun s4 _ => (P X n f (.name 41) s4).bind fun s5 b => (P X n f (.index) s5).bind fun s6 l => (take X n 32 s6).bind fun s7 _ => (take X n 2 s7).bind fun s8 q => add t 11 u.text q.num (l.length : Int) ([hd a] ++ [hd b] ++ l) s8
    | .block => (enter X n 54 s).bind fun s1 t => (P X n f (.blockL []) s1).bind fun s2 l => (leave X n 55 s2).bind fun s3 _ => add t 20 [] 0 0 l s3
    | .blockL l => if kd X n s = 55 then (.ok s l) else ((P X n f (.stmt) s).bind fun s1 a => P X n f (.blockL (l ++ [hd a])) s1)
    | .stmt => if kd X n s = 22 then ((take X n 22 s).bind fun s1 t => (take X n 1 s1).bind fun s2 u => (P X n f (.value) s2).bind fun s3 a => add t 21 u.text 0 0 [hd a] s3) else (if kd X n s = 1 then (P X n f .set s) else (if kd X n s = 23 then ((take X n 23 s).bind fun s1 t => P X n f (.branch t) s1) else (if kd X n s = 25 then ((take X n 25 s).bind fun s1 t => (P X n f (.bin 1) s1).bind fun s2 a => (P X n f (.block) s2).bind fun s3 b => add t 25 [] 0 0 [hd a, hd b] s3) else (if kd X n s = 26 then ((take X n 26 s).bind fun s1 t => add t 26 [] 0 0 [] s1) else (if kd X n s = 27 then ((take X n 27 s).bind fun s1 t => add t 27 [] 0 0 [] s1) else (if kd X n s = 28 then ((take X n 28 s).bind fun s1 t => add t 28 [] 0 0 [] s1) else (if kd X n s = 29 then (P X n f .send s) else (if kd X n s = 33 then ((take X n 33 s).bind fun s1 t => (P X n f (.bin 1) s1).bind fun s2 a => add t 30 [] 0 0 [hd a] s2) else (.bad (refu X n s))))))))))
    | .set => (take X n 1 s).bind fun s1 t => (P X n f (.index) s1).bind fun s2 l => (P X n f (.value) s2).bind fun s3 a => add t (if l = [] then 22 else 23) t.text 0 0 (l ++ [hd a]) s3
    | .branch t => (P X n f (.bin 1) s).bind fun s1 a => (P X n f (.block) s1).bind fun s2 b => if kd X n s2 = 24 then ((take X n 24 s2).bind fun s3 _ => (P X n f (.otherwise) s3).bind fun s4 c => add t 24 [] 0 0 [hd a, hd b, hd c] s4) else (add t 24 [] 0 0 [hd a, hd b] s2)
    | .otherwise => if kd X n s = 23 then ((enter X n 23 s).bind fun s1 t => (P X n f (.branch t) s1).bind fun s2 a => .ok ⟨s2.nx, s2.dp - 1, s2.md⟩ a) else (P X n f .block s)
    | .send => (take X n 29 s).bind fun s1 t => (take X n 1 s1).bind fun s2 u => (P X n f (.brack) s2).bind fun s3 a => (take X n 30 s3).bind fun s4 _ => (P X n f (.bin 1) s4).bind fun s5 b => (take X n 31 s5).bind fun s6 _ => (P X n f (.bin 1) s6).bind fun s7 c => add t 29 u.text 0 0 [hd a, hd b, hd c] s7
theorem P_bin (X : Nat → Tk) (n f : Nat) (s : St) (st : Nat) : P X n (f + 1) (.bin st) s = (if st = 10 then (P X n f .una s) else ((P X n f (.bin (st + 1)) s).bind fun s1 l => P X n f (.binL st (hd l)) s1)) := rfl
theorem P_binL (X : Nat → Tk) (n f : Nat) (s : St) (st : Nat) (left : Nat) : P X n (f + 1) (.binL st left) s = (if bindsP (kd X n s) = st then ((take X n (kd X n s) s).bind fun s1 o => (P X n f (.bin (st + 1)) s1).bind fun s2 r => (add o 43 [] 0 o.kind [left, hd r] s2).bind fun s3 v => if st = 3 then (.ok s3 v) else (P X n f (.binL st (hd v)) s3)) else (.ok s [left])) := rfl
theorem P_una (X : Nat → Tk) (n f : Nat) (s : St) : P X n (f + 1) (.una) s = (if isUn (kd X n s) = true then ((enter X n (kd X n s) s).bind fun s1 o => (P X n f (.una) s1).bind fun s2 a => add o 44 [] 0 o.kind [hd a] ⟨s2.nx, s2.dp - 1, s2.md⟩) else (P X n f .atom s)) := rfl
theorem P_atom (X : Nat → Tk) (n f : Nat) (s : St) : P X n (f + 1) (.atom) s = (if kd X n s = 2 then ((take X n 2 s).bind fun s1 t => add t 40 [] t.num 0 [] s1) else (if kd X n s = 1 then (P X n f .named s) else (if kd X n s = 34 then ((take X n 34 s).bind fun s1 t => add t 45 [] 0 0 [] s1) else (if kd X n s = 35 then ((take X n 35 s).bind fun s1 t => add t 46 [] 0 0 [] s1) else (if kd X n s = 36 then ((take X n 36 s).bind fun s1 t => add t 47 [] 0 0 [] s1) else (if kd X n s = 37 then (P X n f (.throw 48) s) else (if kd X n s = 40 then (P X n f (.throw 51) s) else (if kd X n s = 38 then (P X n f (.choice 49) s) else (if kd X n s = 39 then (P X n f (.choice 50) s) else (if kd X n s = 50 then (P X n f .brack s) else (.bad (refu X n s)))))))))))) := rfl
theorem P_named (X : Nat → Tk) (n f : Nat) (s : St) : P X n (f + 1) (.named) s = ((take X n 1 s).bind fun s1 t => (P X n f (.index) s1).bind fun s2 l => add t (if l = [] then 41 else 42) t.text 0 0 l s2) := rfl
theorem P_throw (X : Nat → Tk) (n f : Nat) (s : St) (q : Int) : P X n (f + 1) (.throw q) s = ((take X n (kd X n s) s).bind fun s1 t => (P X n f (.brack) s1).bind fun s2 l => add t q [] 0 0 [hd l] s2) := rfl
theorem P_choice (X : Nat → Tk) (n f : Nat) (s : St) (q : Int) : P X n (f + 1) (.choice q) s = ((take X n (kd X n s) s).bind fun s1 t => (enter X n 50 s1).bind fun s2 _ => (P X n f (.bin 1) s2).bind fun s3 a => (take X n 56 s3).bind fun s4 _ => (P X n f (.bin 1) s4).bind fun s5 b => (leave X n 51 s5).bind fun s6 _ => add t q [] 0 0 [hd a, hd b] s6) := rfl
theorem P_brack (X : Nat → Tk) (n f : Nat) (s : St) : P X n (f + 1) (.brack) s = ((enter X n 50 s).bind fun s1 _ => (P X n f (.bin 1) s1).bind fun s2 a => (leave X n 51 s2).bind fun s3 _ => .ok s3 a) := rfl
theorem P_index (X : Nat → Tk) (n f : Nat) (s : St) : P X n (f + 1) (.index) s = (if kd X n s = 52 then ((enter X n 52 s).bind fun s1 _ => (P X n f (.bin 1) s1).bind fun s2 a => (leave X n 53 s2).bind fun s3 _ => .ok s3 [hd a]) else (.ok s [])) := rfl
theorem P_value (X : Nat → Tk) (n f : Nat) (s : St) : P X n (f + 1) (.value) s = ((take X n 58 s).bind fun s1 _ => P X n f (.bin 1) s1) := rfl
theorem P_name (X : Nat → Tk) (n f : Nat) (s : St) (q : Int) : P X n (f + 1) (.name q) s = ((take X n 1 s).bind fun s1 t => add t q t.text 0 0 [] s1) := rfl
theorem P_scene (X : Nat → Tk) (n f : Nat) (s : St) : P X n (f + 1) (.scene) s = (P X n f (.sceneL []) s) := rfl
theorem P_sceneL (X : Nat → Tk) (n f : Nat) (s : St) (l : List Nat) : P X n (f + 1) (.sceneL l) s = (if s.nx < n then ((P X n f (.item) s).bind fun s1 a => P X n f (.sceneL (l ++ [hd a])) s1) else (add ⟨0, [], 0, 1, 1⟩ 1 [] 0 0 l s)) := rfl
theorem P_item (X : Nat → Tk) (n f : Nat) (s : St) : P X n (f + 1) (.item) s = (if 10 ≤ kd X n s ∧ kd X n s ≤ 14 then (P X n f .setting s) else (if kd X n s = 15 then (P X n f .constant s) else (if kd X n s = 16 then (P X n f .kinds s) else (if kd X n s = 17 then (P X n f .ptype s) else (if kd X n s = 20 then (P X n f .place s) else (if kd X n s = 21 then (P X n f .start s) else (.bad (refu X n s)))))))) := rfl
theorem P_setting (X : Nat → Tk) (n f : Nat) (s : St) : P X n (f + 1) (.setting) s = ((take X n (kd X n s) s).bind fun s1 t => (take X n 2 s1).bind fun s2 u => add t 2 [] u.num t.kind [] s2) := rfl
theorem P_constant (X : Nat → Tk) (n f : Nat) (s : St) : P X n (f + 1) (.constant) s = ((take X n 15 s).bind fun s1 t => (take X n 1 s1).bind fun s2 u => (P X n f (.value) s2).bind fun s3 a => add t 3 u.text 0 0 [hd a] s3) := rfl
theorem P_kinds (X : Nat → Tk) (n f : Nat) (s : St) : P X n (f + 1) (.kinds) s = ((take X n 16 s).bind fun s1 t => (P X n f (.name 5) s1).bind fun s2 a => (P X n f (.kindsL [hd a]) s2).bind fun s3 l => add t 4 [] 0 0 l s3) := rfl
theorem P_kindsL (X : Nat → Tk) (n f : Nat) (s : St) (l : List Nat) : P X n (f + 1) (.kindsL l) s = (if kd X n s = 56 then ((take X n 56 s).bind fun s1 _ => (P X n f (.name 5) s1).bind fun s2 a => P X n f (.kindsL (l ++ [hd a])) s2) else (.ok s l)) := rfl
theorem P_ptype (X : Nat → Tk) (n f : Nat) (s : St) : P X n (f + 1) (.ptype) s = ((take X n 17 s).bind fun s1 t => (take X n 1 s1).bind fun s2 u => (enter X n 54 s2).bind fun s3 _ => (P X n f (.memL []) s3).bind fun s4 l => (leave X n 55 s4).bind fun s5 _ => add t 6 u.text 0 0 l s5) := rfl
theorem P_memL (X : Nat → Tk) (n f : Nat) (s : St) (l : List Nat) : P X n (f + 1) (.memL l) s = (if kd X n s = 55 then (.ok s l) else ((P X n f (.member) s).bind fun s1 a => P X n f (.memL (l ++ [hd a])) s1)) := rfl
theorem P_member (X : Nat → Tk) (n f : Nat) (s : St) : P X n (f + 1) (.member) s = (if kd X n s = 18 then (P X n f .vari s) else (if kd X n s = 19 then (P X n f .handler s) else (.bad (refu X n s)))) := rfl
theorem P_vari (X : Nat → Tk) (n f : Nat) (s : St) : P X n (f + 1) (.vari) s = ((take X n 18 s).bind fun s1 t => (take X n 1 s1).bind fun s2 u => (P X n f (.index) s2).bind fun s3 l => if kd X n s3 = 58 then ((P X n f (.value) s3).bind fun s4 a => add t 7 u.text 0 ((l.length : Int) + 2) (l ++ [hd a]) s4) else (add t 7 u.text 0 (l.length : Int) l s3)) := rfl
theorem P_handler (X : Nat → Tk) (n f : Nat) (s : St) : P X n (f + 1) (.handler) s = ((take X n 19 s).bind fun s1 t => (take X n 1 s1).bind fun s2 u => (enter X n 50 s2).bind fun s3 _ => (P X n f (.name 41) s3).bind fun s4 d => (leave X n 51 s4).bind fun s5 _ => (P X n f (.block) s5).bind fun s6 b => add t 8 u.text 0 0 [hd d, hd b] s6) := rfl
theorem P_place (X : Nat → Tk) (n f : Nat) (s : St) : P X n (f + 1) (.place) s = ((take X n 20 s).bind fun s1 t => (take X n 1 s1).bind fun s2 u => (P X n f (.index) s2).bind fun s3 l => (take X n 57 s3).bind fun s4 _ => (P X n f (.name 41) s4).bind fun s5 a => if kd X n s5 = 50 then ((P X n f (.gives) s5).bind fun s6 g => add t 9 u.text 0 (l.length : Int) (l ++ [hd a] ++ g) s6) else (add t 9 u.text 0 (l.length : Int) (l ++ [hd a]) s5)) := rfl
theorem P_gives (X : Nat → Tk) (n f : Nat) (s : St) : P X n (f + 1) (.gives) s = ((enter X n 50 s).bind fun s1 _ => (P X n f (.give) s1).bind fun s2 a => (P X n f (.givesL [hd a]) s2).bind fun s3 l => (leave X n 51 s3).bind fun s4 _ => .ok s4 l) := rfl
theorem P_givesL (X : Nat → Tk) (n f : Nat) (s : St) (l : List Nat) : P X n (f + 1) (.givesL l) s = (if kd X n s = 56 then ((take X n 56 s).bind fun s1 _ => (P X n f (.give) s1).bind fun s2 a => P X n f (.givesL (l ++ [hd a])) s2) else (.ok s l)) := rfl
theorem P_give (X : Nat → Tk) (n f : Nat) (s : St) : P X n (f + 1) (.give) s = ((take X n 1 s).bind fun s1 t => (P X n f (.index) s1).bind fun s2 l => (P X n f (.value) s2).bind fun s3 a => add t 10 t.text 0 (l.length : Int) (l ++ [hd a]) s3) := rfl
theorem P_start (X : Nat → Tk) (n f : Nat) (s : St) : P X n (f + 1) (.start) s = ((take X n 21 s).bind fun s1 t => (take X n 1 s1).bind fun s2 u => (P X n f (.brack) s2).bind fun s3 a => (take X n 30 s3).bind fun s4 _ => (P X n f (.name 41) s4).bind fun s5 b => (P X n f (.index) s5).bind fun s6 l => (take X n 32 s6).bind fun s7 _ => (take X n 2 s7).bind fun s8 q => add t 11 u.text q.num (l.length : Int) ([hd a] ++ [hd b] ++ l) s8) := rfl
theorem P_block (X : Nat → Tk) (n f : Nat) (s : St) : P X n (f + 1) (.block) s = ((enter X n 54 s).bind fun s1 t => (P X n f (.blockL []) s1).bind fun s2 l => (leave X n 55 s2).bind fun s3 _ => add t 20 [] 0 0 l s3) := rfl
theorem P_blockL (X : Nat → Tk) (n f : Nat) (s : St) (l : List Nat) : P X n (f + 1) (.blockL l) s = (if kd X n s = 55 then (.ok s l) else ((P X n f (.stmt) s).bind fun s1 a => P X n f (.blockL (l ++ [hd a])) s1)) := rfl
theorem P_stmt (X : Nat → Tk) (n f : Nat) (s : St) : P X n (f + 1) (.stmt) s = (if kd X n s = 22 then ((take X n 22 s).bind fun s1 t => (take X n 1 s1).bind fun s2 u => (P X n f (.value) s2).bind fun s3 a => add t 21 u.text 0 0 [hd a] s3) else (if kd X n s = 1 then (P X n f .set s) else (if kd X n s = 23 then ((take X n 23 s).bind fun s1 t => P X n f (.branch t) s1) else (if kd X n s = 25 then ((take X n 25 s).bind fun s1 t => (P X n f (.bin 1) s1).bind fun s2 a => (P X n f (.block) s2).bind fun s3 b => add t 25 [] 0 0 [hd a, hd b] s3) else (if kd X n s = 26 then ((take X n 26 s).bind fun s1 t => add t 26 [] 0 0 [] s1) else (if kd X n s = 27 then ((take X n 27 s).bind fun s1 t => add t 27 [] 0 0 [] s1) else (if kd X n s = 28 then ((take X n 28 s).bind fun s1 t => add t 28 [] 0 0 [] s1) else (if kd X n s = 29 then (P X n f .send s) else (if kd X n s = 33 then ((take X n 33 s).bind fun s1 t => (P X n f (.bin 1) s1).bind fun s2 a => add t 30 [] 0 0 [hd a] s2) else (.bad (refu X n s))))))))))) := rfl
theorem P_set (X : Nat → Tk) (n f : Nat) (s : St) : P X n (f + 1) (.set) s = ((take X n 1 s).bind fun s1 t => (P X n f (.index) s1).bind fun s2 l => (P X n f (.value) s2).bind fun s3 a => add t (if l = [] then 22 else 23) t.text 0 0 (l ++ [hd a]) s3) := rfl
theorem P_branch (X : Nat → Tk) (n f : Nat) (s : St) (t : Tk) : P X n (f + 1) (.branch t) s = ((P X n f (.bin 1) s).bind fun s1 a => (P X n f (.block) s1).bind fun s2 b => if kd X n s2 = 24 then ((take X n 24 s2).bind fun s3 _ => (P X n f (.otherwise) s3).bind fun s4 c => add t 24 [] 0 0 [hd a, hd b, hd c] s4) else (add t 24 [] 0 0 [hd a, hd b] s2)) := rfl
theorem P_otherwise (X : Nat → Tk) (n f : Nat) (s : St) : P X n (f + 1) (.otherwise) s = (if kd X n s = 23 then ((enter X n 23 s).bind fun s1 t => (P X n f (.branch t) s1).bind fun s2 a => .ok ⟨s2.nx, s2.dp - 1, s2.md⟩ a) else (P X n f .block s)) := rfl
theorem P_send (X : Nat → Tk) (n f : Nat) (s : St) : P X n (f + 1) (.send) s = ((take X n 29 s).bind fun s1 t => (take X n 1 s1).bind fun s2 u => (P X n f (.brack) s2).bind fun s3 a => (take X n 30 s3).bind fun s4 _ => (P X n f (.bin 1) s4).bind fun s5 b => (take X n 31 s5).bind fun s6 _ => (P X n f (.bin 1) s6).bind fun s7 c => add t 29 u.text 0 0 [hd a, hd b, hd c] s7) := rfl
end Go.Proofs.YtmekcccmnkgodaaGreatDoor
