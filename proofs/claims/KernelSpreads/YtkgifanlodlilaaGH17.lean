import Derived.Test.YtkgifanlodlilaaGH16
import Derived.Test.YtkgifanlodlilaaGH10
import Derived.Deep.RegionLaw
import Derived.Deep.RegionHeld3
import Derived.Deep.Cut
import Derived.Deep.DeepCutAuto
import Derived.Deep.CutBlock
import Derived.Deep.CutRange
import Derived.BigQuiet
import Derived.Handy
namespace Go.Proofs.Ytkgifanlodlilaa
open Go.ChangeShapes Go.WideShapes Go.ChangeAt Go.RowKit
set_option linter.unusedVariables false
set_option linter.unusedSimpArgs false


/-- a list of ints that the call has made: nil, or a row with no spare room -/
def LR (W : World) (B : Nat) (q : Option Addr) (n cq : Nat) (f : Nat → Int) (g : Nat) : Prop := (q = none ∧ n = 0 ∧ cq = 0 ∧ B ≤ g) ∨ (q = some ⟨g, 0, none⟩ ∧ cq = n ∧ IRow W B g n n f)
variable {W W' : World} {B n cq g : Nat} {q : Option Addr} {f : Nat → Int}
theorem LR.kat (h : LR W B q n cq f g) : KAt W q n f := by
  rcases h with ⟨_, h, _⟩ | ⟨rfl, _, h⟩
  · exact .inl h
  · exact h.kat
theorem LR.shape (h : LR W B q n cq f g) : q = none ∧ n = 0 ∧ cq = 0 ∨ ∃ g o, q = some ⟨g, o, none⟩ ∧ cq = n := by
  rcases h with ⟨h1, h2, h3, _⟩ | ⟨rfl, h2, h⟩
  · exact .inl ⟨h1, h2, h3⟩
  · exact .inr ⟨g, 0, rfl, h2⟩
theorem LR.later (h : LR W B q n cq f g) (hb : Below W.heap.size W W') : LR W' B q n cq f g := by
  rcases h with h | ⟨h1, h2, h⟩
  · exact .inl h
  · exact .inr ⟨h1, h2, h.later hb⟩
theorem LR.lower {B' : Nat} (h : LR W B q n cq f g) (hb : B' ≤ B) : LR W B' q n cq f g := by
  rcases h with ⟨h1, h2, h3, h4⟩ | ⟨h1, h2, h⟩
  · exact .inl ⟨h1, h2, h3, by omega⟩
  · exact .inr ⟨h1, h2, h.lower hb⟩
theorem LR.ge (h : LR W B q n cq f g) : B ≤ g := by
  rcases h with ⟨_, _, _, h⟩ | ⟨_, _, h⟩
  · exact h
  · exact h.lt.1
theorem LR.off (h : LR W B q n cq f g) {k i : Nat} {v : Value} (hk : n ≠ 0 → k ≠ g) : LR (W.setCell ⟨k, i, none⟩ v) B q n cq f g := by
  rcases h with h | ⟨h1, h2, h⟩
  · exact .inl h
  · by_cases e : k = g
    · have : n = 0 := by by_cases h0 : n = 0; exact h0; exact absurd e (hk h0)
      subst this
      subst e
      exact .inr ⟨h1, h2, Own.congr (Own.put h i [v]) fun j hj => by omega⟩
    · exact .inr ⟨h1, h2, h.off e⟩
theorem VC.tot2 (p : Pl) : ∃ c, VC p c := by
  unfold VC
  by_cases a1 : p.ki < 0 ∨ 32 < p.ki
  · exact ⟨126, .inl ⟨a1, rfl⟩⟩
  by_cases a2 : GP p
  case neg => exact ⟨120, .inr ⟨a1, .inl ⟨a2, rfl⟩⟩⟩
  by_cases a3 : GT p
  case neg => exact ⟨121, .inr ⟨a1, .inr ⟨a2, .inl ⟨a3, rfl⟩⟩⟩⟩
  by_cases a4 : GS p
  case neg => exact ⟨122, .inr ⟨a1, .inr ⟨a2, .inr ⟨a3, .inl ⟨a4, rfl⟩⟩⟩⟩⟩
  by_cases a5 : p.lk = 0
  · exact ⟨123, .inr ⟨a1, .inr ⟨a2, .inr ⟨a3, .inr ⟨a4, .inl ⟨a5, rfl⟩⟩⟩⟩⟩⟩
  by_cases a6 : p.bu < 0 ∨ 4096 < p.bu
  · exact ⟨124, .inr ⟨a1, .inr ⟨a2, .inr ⟨a3, .inr ⟨a4, .inr ⟨a5, .inl ⟨a6, rfl⟩⟩⟩⟩⟩⟩⟩
  by_cases a7 : p.fu < 1 ∨ 4096 < p.fu
  · exact ⟨125, .inr ⟨a1, .inr ⟨a2, .inr ⟨a3, .inr ⟨a4, .inr ⟨a5, .inr ⟨a6, .inl ⟨a7, rfl⟩⟩⟩⟩⟩⟩⟩⟩
  · exact ⟨0, .inr ⟨a1, .inr ⟨a2, .inr ⟨a3, .inr ⟨a4, .inr ⟨a5, .inr ⟨a6, .inr ⟨a7, rfl⟩⟩⟩⟩⟩⟩⟩⟩
theorem LR.congr {f' : Nat → Int} (h : LR W B q n cq f g) (he : ∀ i, i < n → f i = f' i) : LR W B q n cq f' g := by
  rcases h with h | ⟨h1, h2, h⟩
  · exact .inl h
  · exact .inr ⟨h1, h2, h.congr he⟩
theorem LR.kp {gl : Nat} (h : LR W B q n cq f g) (hk : SI.Kp gl W W') (hne : g < W.heap.size → g ≠ gl) : LR W' B q n cq f g := by
  rcases h with h | ⟨h1, h2, h⟩
  · exact .inl h
  · exact .inr ⟨h1, h2, Own.far h fun j hj => by
      have e : j = g := by injection hj with hj; exact hj.symm
      subst e
      exact hk.block _ h.lt.2 (hne h.lt.2)⟩
theorem OI.kpk {gl : Nat} (h : OI W B (.slice q n cq) n f) (hk : SI.Kp gl W W') (hne : ∀ k, B ≤ k → k < W.heap.size → k ≠ gl) : KAt W' q n f := by
  rcases h.form with ⟨e, h0⟩ | ⟨g, c, e, h1, h2⟩
  · exact .inl h0
  · injection e with e1 e2 e3
    subst e1
    exact .inr ⟨g, 0, rfl, Nat.lt_of_lt_of_le h2 hk.size, fun j hj => by
      rw [Nat.zero_add]
      exact (World.cell?_of_block (hk.block _ h2 (hne g h1 h2))).trans (OI.cell (c := cq) h hj)⟩
theorem mark_next (f : Nat → Int) (i : Nat) {n : Nat} : ∀ j, j < n → setF (fun j => if j < i then -5 - (j : Int) else f j) i (-5 - (i : Int)) j = (fun j => if j < i + 1 then -5 - (j : Int) else f j) j := fun j _ => by
  unfold setF
  show (if j = i then -5 - (i : Int) else if j < i then -5 - (j : Int) else f j) = if j < i + 1 then -5 - (j : Int) else f j
  by_cases e : j = i
  · subst e; rw [if_pos rfl, if_pos (by omega)]
  · rw [if_neg e]
    by_cases e2 : j < i
    · rw [if_pos e2, if_pos (by omega)]
    · rw [if_neg e2, if_neg (by omega)]
/-- the code of what is refused -/
def bcode (p : Pl) (wk way cd : Int) : Prop := (VC p cd ∧ cd ≠ 0) ∨ (VC p 0 ∧ (wk < 1 ∨ 64 < wk) ∧ cd = 100) ∨ (VC p 0 ∧ (1 ≤ wk ∧ wk ≤ 64) ∧ (way < 1 ∨ 4 < way) ∧ cd = 63)
def gcode (p : Pl) (wk way : Int) (f : Nat → Int) : Prop := VC p 0 ∧ (1 ≤ wk ∧ wk ≤ 64) ∧ (1 ≤ way ∧ way ≤ 4) ∧ (way ≠ 3 ∧ f = owF p wk.toNat way ∨ way = 3 ∧ Dealt p wk.toNat f)
def LOk (p : Pl) (wk way a b c e cd : Int) (n : Nat) (f : Nat → Int) : Prop := ((a = 0 ∧ b = 0 ∧ c = 0 ∧ e = 0 ∧ n = 0) ∧ bcode p wk way cd) ∨ ((a = wk ∧ b = 8192 ∧ c = 1024 ∧ e = 4096 ∧ n = p.nq ∧ cd = 0) ∧ gcode p wk way f)
theorem LOk.le {p : Pl} {wk way a b c e cd : Int} (h : LOk p wk way a b c e cd n f) : n ≤ 64 := by
  rcases h with ⟨⟨_, _, _, _, h⟩, _⟩ | ⟨⟨_, _, _, _, h, _⟩, hV, _⟩
  · omega
  · have := hV.fit6.1.2.1
    omega
theorem hvy_one {n : Nat} {K : Nat → Int} {d d' : Nat → Nat} (h : Hvy n K d) (h' : Hvy n K d') : ∀ j, j < n → d j = d' j := by
  intro j
  induction j using Nat.strongRecOn with
  | _ j ih =>
    intro hj
    obtain ⟨i, hi, e⟩ := h'.inv (d j) (h.lt j hj)
    obtain ⟨k, hk, e2⟩ := h.inv (d' j) (h'.lt j hj)
    rcases Nat.lt_trichotomy i j with l | l | l
    · have := ih i l hi
      rw [e] at this
      have := h.inj i j hi hj this
      omega
    · subst l; exact e.symm
    · rcases Nat.lt_trichotomy k j with m | m | m
      · have := ih k m hk
        rw [e2] at this
        have := h'.inj j k hj hk this
        omega
      · subst m; exact e2
      · have h1 := h'.srt j i l hi
        have h2 := h.srt j k m hk
        rw [e] at h1
        rw [e2] at h2
        omega
theorem dl_congr {K : Nat → Int} {d d' : Nat → Nat} {m : Nat} : ∀ j, (∀ i, i < j → d i = d' i) → dl K d m j = dl K d' m j
  | 0, _ => rfl
  | j + 1, h => by
    have ih := dl_congr (K := K) (m := m) j fun i hi => h i (by omega)
    show (setF (dl K d m j).1 (d j) _, setF (dl K d m j).2 _ _) = (setF (dl K d' m j).1 (d' j) _, setF (dl K d' m j).2 _ _)
    rw [ih, h j (by omega)]
theorem gcode.one {p : Pl} {wk way : Int} {f h : Nat → Int} (x : gcode p wk way f) (y : gcode p wk way h) : f = h := by
  obtain ⟨_, _, _, ⟨x1, x2⟩ | ⟨x1, d, x2, x3⟩⟩ := x
  · obtain ⟨_, _, _, ⟨y1, y2⟩ | ⟨y1, _⟩⟩ := y
    · rw [x2, y2]
    · exact absurd y1 x1
  · obtain ⟨_, _, _, ⟨y1, y2⟩ | ⟨y1, d', y2, y3⟩⟩ := y
    · exact absurd x1 y1
    · rw [x3, y3, dl_congr _ (hvy_one x2 y2)]
theorem bcode.one {p : Pl} {wk way x y : Int} (h : bcode p wk way x) (h' : bcode p wk way y) : x = y := by
  rcases h with ⟨h1, h2⟩ | ⟨h1, h2, h3⟩ | ⟨h1, h2, h3, h4⟩ <;> rcases h' with ⟨g1, g2⟩ | ⟨g1, g2, g3⟩ | ⟨g1, g2, g3, g4⟩
  · exact h1.one g1
  · exact absurd (h1.one g1) h2
  · exact absurd (h1.one g1) h2
  · exact absurd (g1.one h1) g2
  · omega
  · omega
  · exact absurd (g1.one h1) g2
  · omega
  · omega
theorem bg_no {p : Pl} {wk way x : Int} {f : Nat → Int} (h : bcode p wk way x) (h' : gcode p wk way f) : False := by
  obtain ⟨g1, g2, g3, _⟩ := h'
  rcases h with ⟨h1, h2⟩ | ⟨h1, h2, h3⟩ | ⟨h1, h2, h3, h4⟩
  · exact h2 (h1.one g1)
  · omega
  · omega
theorem LOk.one {p : Pl} {wk way a b c e cd a' b' c' e' cd' : Int} {n' : Nat} {f' : Nat → Int} (x : LOk p wk way a b c e cd n f) (y : LOk p wk way a' b' c' e' cd' n' f') : (a' = a ∧ b' = b ∧ c' = c ∧ e' = e ∧ cd' = cd ∧ n' = n) ∧ ∀ i, i < n → f' i = f i := by
  rcases x with ⟨⟨rfl, rfl, rfl, rfl, rfl⟩, x⟩ | ⟨⟨rfl, rfl, rfl, rfl, rfl, rfl⟩, x⟩ <;> rcases y with ⟨⟨rfl, rfl, rfl, rfl, rfl⟩, y⟩ | ⟨⟨rfl, rfl, rfl, rfl, rfl, rfl⟩, y⟩
  · exact ⟨⟨rfl, rfl, rfl, rfl, y.one x, rfl⟩, fun i hi => by omega⟩
  · exact (bg_no x y).elim
  · exact (bg_no y x).elim
  · exact ⟨⟨rfl, rfl, rfl, rfl, rfl, rfl⟩, fun i hi => by rw [y.one x]⟩
theorem spread_all (p : Pl) (v : PlV) (wk way : Int) (w : World) (h : PlAt w p v) : Calls Try.prog 5 #[.agg #[.int .i64 p.ki, .slice v.pp p.np v.pc, .slice v.tp p.nq v.tc, .slice v.sp p.ns v.sc, .int .u64 p.sd, .int .u64 p.lk, .int .u64 p.en, .int .i64 p.bu, .int .i64 p.fu], .int .i64 wk, .int .i64 way] w fun r w' => ∃ (a b c e cd : Int) (q : Option Addr) (n cq g : Nat) (f : Nat → Int), r = .returned (.tuple #[.agg #[.int .i64 a, .slice q n cq, .int .i64 b, .int .i64 c, .int .i64 e], .int .i64 cd]) ∧ LOk p wk way a b c e cd n f ∧ LR w' w.heap.size q n cq f g ∧ Below w.heap.size w w' := by
  have hbad : ∀ cd, bcode p wk way cd → Calls Try.prog 5 #[.agg #[.int .i64 p.ki, .slice v.pp p.np v.pc, .slice v.tp p.nq v.tc, .slice v.sp p.ns v.sc, .int .u64 p.sd, .int .u64 p.lk, .int .u64 p.en, .int .i64 p.bu, .int .i64 p.fu], .int .i64 wk, .int .i64 way] w (fun e w' => e = .returned (.tuple #[.agg #[.int .i64 0, .slice none 0 0, .int .i64 0, .int .i64 0, .int .i64 0], .int .i64 cd]) ∧ Below w.heap.size w w') → Calls Try.prog 5 #[.agg #[.int .i64 p.ki, .slice v.pp p.np v.pc, .slice v.tp p.nq v.tc, .slice v.sp p.ns v.sc, .int .u64 p.sd, .int .u64 p.lk, .int .u64 p.en, .int .i64 p.bu, .int .i64 p.fu], .int .i64 wk, .int .i64 way] w fun r w' => ∃ (a b c e cd : Int) (q : Option Addr) (n cq g : Nat) (f : Nat → Int), r = .returned (.tuple #[.agg #[.int .i64 a, .slice q n cq, .int .i64 b, .int .i64 c, .int .i64 e], .int .i64 cd]) ∧ LOk p wk way a b c e cd n f ∧ LR w' w.heap.size q n cq f g ∧ Below w.heap.size w w' := fun cd hb hc => hc.mono fun r w' ⟨h1, h2⟩ => ⟨0, 0, 0, 0, cd, none, 0, 0, w.heap.size, fun _ => 0, h1, .inl ⟨⟨rfl, rfl, rfl, rfl, rfl⟩, hb⟩, .inl ⟨rfl, rfl, rfl, Nat.le_refl _⟩, h2⟩
  obtain ⟨cv, hV⟩ := VC.tot2 p
  by_cases h0 : cv = 0
  case neg => exact hbad cv (.inl ⟨hV, h0⟩) (spread_bad p v wk way cv h0 hV w h)
  subst h0
  by_cases h1 : wk < 1
  · exact hbad 100 (.inr (.inl ⟨hV, .inl h1, rfl⟩)) (spread_wkLo p v wk way hV h1 w h)
  by_cases h2 : 64 < wk
  · exact hbad 100 (.inr (.inl ⟨hV, .inr h2, rfl⟩)) (spread_wkHi p v wk way hV h2 w h)
  by_cases h3 : way < 1
  · exact hbad 63 (.inr (.inr ⟨hV, ⟨by omega, by omega⟩, .inl h3, rfl⟩)) (spread_wayLo p v wk way hV ⟨by omega, by omega⟩ h3 w h)
  by_cases h4 : 4 < way
  · exact hbad 63 (.inr (.inr ⟨hV, ⟨by omega, by omega⟩, .inr h4, rfl⟩)) (spread_wayHi p v wk way hV ⟨by omega, by omega⟩ h4 w h)
  obtain ⟨m, rfl⟩ := Int.eq_ofNat_of_zero_le (show 0 ≤ wk by omega)
  have hgood : ∀ (R : (Nat → Int) → Prop), (∀ w, PlAt w p v → Calls Try.prog 14 #[.agg #[.int .i64 p.ki, .slice v.pp p.np v.pc, .slice v.tp p.nq v.tc, .slice v.sp p.ns v.sc, .int .u64 p.sd, .int .u64 p.lk, .int .u64 p.en, .int .i64 p.bu, .int .i64 p.fu], .int .i64 (m : Int), .int .i64 way] w fun e w' => ∃ (g : Nat) (f : Nat → Int), e = .returned (.slice (some ⟨g, 0, none⟩) p.nq p.nq) ∧ IRow w' w.heap.size g p.nq p.nq f ∧ R f ∧ Below w.heap.size w w') → (∀ f, R f → gcode p (m : Int) way f) → Calls Try.prog 5 #[.agg #[.int .i64 p.ki, .slice v.pp p.np v.pc, .slice v.tp p.nq v.tc, .slice v.sp p.ns v.sc, .int .u64 p.sd, .int .u64 p.lk, .int .u64 p.en, .int .i64 p.bu, .int .i64 p.fu], .int .i64 (m : Int), .int .i64 way] w fun r w' => ∃ (a b c e cd : Int) (q : Option Addr) (n cq g : Nat) (f : Nat → Int), r = .returned (.tuple #[.agg #[.int .i64 a, .slice q n cq, .int .i64 b, .int .i64 c, .int .i64 e], .int .i64 cd]) ∧ LOk p m way a b c e cd n f ∧ LR w' w.heap.size q n cq f g ∧ Below w.heap.size w w' := fun R HO hR => (spread_good p v m way hV (by omega) (by omega) ⟨by omega, by omega⟩ R HO w h).mono fun r w' ⟨g, f, h1, h2, h3, h4⟩ => ⟨(m : Int), 8192, 1024, 4096, 0, some ⟨g, 0, none⟩, p.nq, p.nq, g, f, h1, .inr ⟨⟨rfl, rfl, rfl, rfl, rfl, rfl⟩, hR f h3⟩, .inr ⟨rfl, rfl, h2⟩, h4⟩
  have hy : way = 1 ∨ way = 2 ∨ way = 3 ∨ way = 4 := by omega
  rcases hy with rfl | rfl | rfl | rfl
  · exact hgood (fun f => f = owF p m 1) (fun w h => owners1_any p v m hV (by omega) (by omega) w h) fun f e => ⟨hV, by omega, by omega, .inl ⟨by omega, by rw [Int.toNat_natCast]; exact e⟩⟩
  · exact hgood (fun f => f = owF p m 2) (fun w h => owners2_any p v m hV (by omega) (by omega) w h) fun f e => ⟨hV, by omega, by omega, .inl ⟨by omega, by rw [Int.toNat_natCast]; exact e⟩⟩
  · exact hgood (Dealt p m) (fun w h => owners3_any p v m hV (by omega) (by omega) w h) fun f e => ⟨hV, by omega, by omega, .inr ⟨rfl, by rw [Int.toNat_natCast]; exact e⟩⟩
  · exact hgood (fun f => f = owF p m 4) (fun w h => owners4_any p v m hV (by omega) (by omega) w h) fun f e => ⟨hV, by omega, by omega, .inl ⟨by omega, by rw [Int.toNat_natCast]; exact e⟩⟩
/-- the document's, once the program's is known -/
theorem rspread_as (p : Pl) (v : PlV) (wk way a b c e cd : Int) (hL : LOk p wk way a b c e cd n f) (w : World) (h : PlAt w p v) : Calls Try.prog 8 #[.agg #[.int .i64 p.ki, .slice v.pp p.np v.pc, .slice v.tp p.nq v.tc, .slice v.sp p.ns v.sc, .int .u64 p.sd, .int .u64 p.lk, .int .u64 p.en, .int .i64 p.bu, .int .i64 p.fu], .int .i64 wk, .int .i64 way] w fun r w' => ∃ (q : Option Addr) (cq : Nat), r = .returned (.tuple #[.agg #[.int .i64 a, .slice q n cq, .int .i64 b, .int .i64 c, .int .i64 e], .int .i64 cd]) ∧ OI w' w.heap.size (.slice q n cq) n f ∧ Below w.heap.size w w' := by
  rcases hL with ⟨⟨rfl, rfl, rfl, rfl, rfl⟩, hb⟩ | ⟨⟨ha, rfl, rfl, rfl, rfl, rfl⟩, hV, hk, hy, hf⟩
  · have hbad : Calls Try.prog 8 #[.agg #[.int .i64 p.ki, .slice v.pp p.np v.pc, .slice v.tp p.nq v.tc, .slice v.sp p.ns v.sc, .int .u64 p.sd, .int .u64 p.lk, .int .u64 p.en, .int .i64 p.bu, .int .i64 p.fu], .int .i64 wk, .int .i64 way] w (fun e w' => e = .returned (.tuple #[.agg #[.int .i64 0, .slice none 0 0, .int .i64 0, .int .i64 0, .int .i64 0], .int .i64 cd]) ∧ Below w.heap.size w w') := by
      rcases hb with ⟨h1, h2⟩ | ⟨h1, h2, rfl⟩ | ⟨h1, h2, h3, rfl⟩
      · exact rspread_bad p v wk way cd h2 h1 w h
      · rcases h2 with h2 | h2
        · exact rspread_wkLo p v wk way h1 h2 w h
        · exact rspread_wkHi p v wk way h1 h2 w h
      · rcases h3 with h3 | h3
        · exact rspread_wayLo p v wk way h1 h2 h3 w h
        · exact rspread_wayHi p v wk way h1 h2 h3 w h
    exact hbad.mono fun r w' ⟨h1, h2⟩ => ⟨none, 0, h1, OI.nil _ _ _, h2⟩
  · obtain ⟨m, rfl⟩ := Int.eq_ofNat_of_zero_le (show 0 ≤ wk by omega)
    have ha := ha.symm
    subst ha
    have hfin : ∀ {P : (Nat → Int) → Prop}, (∀ f', P f' → f' = f) → Calls Try.prog 8 #[.agg #[.int .i64 p.ki, .slice v.pp p.np v.pc, .slice v.tp p.nq v.tc, .slice v.sp p.ns v.sc, .int .u64 p.sd, .int .u64 p.lk, .int .u64 p.en, .int .i64 p.bu, .int .i64 p.fu], .int .i64 (m : Int), .int .i64 way] w (fun e w' => ∃ (x : Value) (f : Nat → Int), e = .returned (.tuple #[.agg #[.int .i64 (m : Int), x, .int .i64 8192, .int .i64 1024, .int .i64 4096], .int .i64 0]) ∧ OI w' w.heap.size x p.nq f ∧ P f ∧ Below w.heap.size w w') → Calls Try.prog 8 #[.agg #[.int .i64 p.ki, .slice v.pp p.np v.pc, .slice v.tp p.nq v.tc, .slice v.sp p.ns v.sc, .int .u64 p.sd, .int .u64 p.lk, .int .u64 p.en, .int .i64 p.bu, .int .i64 p.fu], .int .i64 (m : Int), .int .i64 way] w fun r w' => ∃ (q : Option Addr) (cq : Nat), r = .returned (.tuple #[.agg #[.int .i64 (m : Int), .slice q p.nq cq, .int .i64 8192, .int .i64 1024, .int .i64 4096], .int .i64 0]) ∧ OI w' w.heap.size (.slice q p.nq cq) p.nq f ∧ Below w.heap.size w w' := fun hP hc => hc.mono fun r w' ⟨x, f', h1, h2, h3, h4⟩ => by
      obtain ⟨q, cq, rfl, -⟩ := h2.kat
      rw [hP f' h3] at h2
      exact ⟨q, cq, h1, h2, h4⟩
    rw [Int.toNat_natCast] at hf
    have hys : way = 1 ∨ way = 2 ∨ way = 3 ∨ way = 4 := by omega
    rcases hys with rfl | rfl | rfl | rfl
    · obtain ⟨_, e⟩ | ⟨e, _⟩ := hf
      · exact hfin (fun f' e' => by rw [e, e']) (rspread1_any p v m hV (by omega) (by omega) w h)
      · omega
    · obtain ⟨_, e⟩ | ⟨e, _⟩ := hf
      · exact hfin (fun f' e' => by rw [e, e']) (rspread2_any p v m hV (by omega) (by omega) w h)
      · omega
    · obtain ⟨e, _⟩ | ⟨_, d, hd, e⟩ := hf
      · exact absurd rfl e
      · exact hfin (fun f' e' => by rw [e, e']) (rspread3_any p v m d hd hV (by omega) (by omega) w h)
    · obtain ⟨_, e⟩ | ⟨e, _⟩ := hf
      · exact hfin (fun f' e' => by rw [e, e']) (rspread4_any p v m hV (by omega) (by omega) w h)
      · omega
end Go.Proofs.Ytkgifanlodlilaa
