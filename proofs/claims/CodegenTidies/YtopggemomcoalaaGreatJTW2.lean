import Derived.Test.YtopggemomcoalaaGreatJTY7
import Derived.Test.YtopggemomcoalaaGreatJV15
import Derived.Deep.LoopGhost
import Derived.Deep.RegionHeld3
import Derived.Deep.RegionLaw
import Derived.BigRegion
import Derived.RegionTactic
import Derived.Deep.Cut
import Derived.Deep.DeepCutAuto
namespace Go.Proofs.YtopggemomcoalaaGreat
open Go.ChangeShapes Go.WideShapes Go.ChangeAt Go.RowKit
set_option linter.unusedVariables false
set_option linter.unusedSimpArgs false

/-! ### the tidier as it lies -/
theorem tmh {p : Prop} (h : p) : Hid p := h
theorem ownA {W : World} {base : Nat} {t t' : TypeId} {s m b : Nat} {v : Value} {F : Nat → Value} {cs : Array Value} {fz : Nat × Nat} (h : Own W base t s v m F) (hb : W.heap[b]? = some (.cells cs t' fz)) (ht : t ≠ t') : ∀ k, v.ownBlock = some k → k ≠ b := by
  intro k hk e
  rcases h.form with ⟨rfl, _⟩ | ⟨g, c, rfl, _⟩
  · simp [Value.ownBlock] at hk
  · simp [Value.ownBlock] at hk
    subst hk
    obtain ⟨cur, h1, _⟩ := h.block
    rw [e, hb] at h1
    injection h1 with h1
    injection h1 with h1 h2 h3
    exact ht h2.symm
theorem ownC {W : World} {base base' : Nat} {t t' : TypeId} {s s' m m' k : Nat} {v v' : Value} {F F' : Nat → Value} (h : Own W base t s v m F) (h' : Own W base' t' s' v' m' F') (ht : t ≠ t') (h1 : v.ownBlock = some k) (h2 : v'.ownBlock = some k) : False := by
  rcases h'.form with ⟨rfl, _⟩ | ⟨g, c, rfl, _⟩
  · simp [Value.ownBlock] at h2
  · simp [Value.ownBlock] at h2
    subst h2
    obtain ⟨cur, h3, _⟩ := h'.block
    exact ownA h h3 ht _ h1 rfl
theorem ltB {W : World} {b : Nat} {cs : Array Value} {t : TypeId} {fz : Nat × Nat} (h : W.heap[b]? = some (.cells cs t fz)) : b < W.heap.size := (Array.getElem?_eq_some_iff.1 h).1
theorem c4t {W : World} {b : Nat} {c0 c1 c2 c3 : Value} {t : TypeId} (h : W.heap[b]? = some (.cells #[c0, c1, c2, c3] t (0, 0))) : W.cell? ⟨b, 0, none⟩ = some c0 ∧ W.cell? ⟨b, 1, none⟩ = some c1 ∧ W.cell? ⟨b, 2, none⟩ = some c2 ∧ W.cell? ⟨b, 3, none⟩ = some c3 := by
  refine ⟨?_, ?_, ?_, ?_⟩
  all_goals (unfold World.cell?; rw [h]; rfl)
structure TD (Sf : Nat → Prop) (Hf : Nat → Option Obj) (W : World) (base tb : Nat) (P : Pg) (cp ep : Option Addr) (cc ec : Nat) : Prop where
  bx : W.heap[tb]? = some (.cells #[.int .i64 P.words, .int .i64 P.locals, .slice cp P.n cc, .slice ep P.m ec] 67 (0, 0))
  cd : Own W base 36 3 (.slice cp P.n cc) P.n (inC P.op P.a P.b)
  en : Own W base 3 1 (.slice ep P.m ec) P.m (iv P.en)
  lo : base ≤ tb
  fr : ∀ j, Sf j → j < W.heap.size ∧ W.heap[j]? = Hf j
  ft : ¬ Sf tb
  fc : ∀ g o, cp = some ⟨g, o, none⟩ → ¬ Sf g
  fe : ∀ g o, ep = some ⟨g, o, none⟩ → ¬ Sf g
theorem fr_keep {Sf : Nat → Prop} {Hf : Nat → Option Obj} {W W' : World} (h : ∀ j, Sf j → j < W.heap.size ∧ W.heap[j]? = Hf j) (hk : ∀ j, Sf j → W'.heap[j]? = W.heap[j]?) : ∀ j, Sf j → j < W'.heap.size ∧ W'.heap[j]? = Hf j := fun j hj => by
  obtain ⟨h1, h2⟩ := h j hj
  have h3 := hk j hj
  refine ⟨?_, h3.trans h2⟩
  rw [Array.getElem?_eq_getElem h1] at h3
  exact (Array.getElem?_eq_some_iff.1 h3).1
variable {Sf : Nat → Prop} {Hf : Nat → Option Obj} {W W' : World} {base tb : Nat} {P : Pg} {cp ep : Option Addr} {cc ec : Nat}
theorem TD.later (h : TD Sf Hf W base tb P cp ep cc ec) (hb : Below W.heap.size W W') : TD Sf Hf W' base tb P cp ep cc ec := ⟨(hb.block _ (ltB h.bx)).trans h.bx, h.cd.later hb, h.en.later hb, h.lo, fr_keep h.fr fun j hj => hb.block j (h.fr j hj).1, h.ft, h.fc, h.fe⟩
theorem TD.cells (h : TD Sf Hf W base tb P cp ep cc ec) : W.cell? ⟨tb, 0, none⟩ = some (.int .i64 P.words) ∧ W.cell? ⟨tb, 1, none⟩ = some (.int .i64 P.locals) ∧ W.cell? ⟨tb, 2, none⟩ = some (.slice cp P.n cc) ∧ W.cell? ⟨tb, 3, none⟩ = some (.slice ep P.m ec) := c4t h.bx
theorem TD.ip (h : TD Sf Hf W base tb P cp ep cc ec) (hn : 0 < P.n) : ∃ g, cp = some ⟨g, 0, none⟩ := by
  rcases h.cd.form with ⟨_, h2⟩ | ⟨g, c, h1, _⟩
  · omega
  · injection h1 with h1; exact ⟨g, h1⟩
theorem TD.ePt (h : TD Sf Hf W base tb P cp ep cc ec) (hn : 0 < P.m) : ∃ g, ep = some ⟨g, 0, none⟩ := by
  rcases h.en.form with ⟨_, h2⟩ | ⟨g, c, h1, _⟩
  · omega
  · injection h1 with h1; exact ⟨g, h1⟩
theorem inC0 (op a b : Nat → Int) (k : Nat) : inC op a b (k * 3) = .int .i64 (op k) := by unfold inC; rw [if_pos (by omega), show k * 3 / 3 = k by omega]
theorem inC1 (op a b : Nat → Int) (k : Nat) : inC op a b (k * 3 + 1) = .int .i64 (a k) := by unfold inC; rw [if_neg (by omega), if_pos (by omega), show (k * 3 + 1) / 3 = k by omega]
theorem inC2 (op a b : Nat → Int) (k : Nat) : inC op a b (k * 3 + 2) = .int .i64 (b k) := by unfold inC; rw [if_neg (by omega), if_neg (by omega), show (k * 3 + 2) / 3 = k by omega]
theorem own_ins {g c n : Nat} {op a b : Nat → Int} (h : Own W base 36 3 (.slice (some ⟨g, 0, none⟩) n c) n (inC op a b)) {k : Nat} (hk : k < n) : (W.cell? ⟨g, k * 3, none⟩ = some (.int .i64 (op k)) ∧ W.cell? ⟨g, k * 3 + 1, none⟩ = some (.int .i64 (a k)) ∧ W.cell? ⟨g, k * 3 + 2, none⟩ = some (.int .i64 (b k))) ∧ ∀ i, W.frozen? ⟨g, i, none⟩ = false := by
  obtain ⟨cur, hcur, _⟩ := Own.block h
  exact ⟨⟨(h.cell (by omega)).trans (by rw [inC0]), (h.cell (by omega)).trans (by rw [inC1]), (h.cell (by omega)).trans (by rw [inC2])⟩, frz hcur⟩
theorem TD.ins {g : Nat} (h : TD Sf Hf W base tb P (some ⟨g, 0, none⟩) ep cc ec) {k : Nat} (hk : k < P.n) : (W.cell? ⟨g, k * 3, none⟩ = some (.int .i64 (P.op k)) ∧ W.cell? ⟨g, k * 3 + 1, none⟩ = some (.int .i64 (P.a k)) ∧ W.cell? ⟨g, k * 3 + 2, none⟩ = some (.int .i64 (P.b k))) ∧ ∀ i, W.frozen? ⟨g, i, none⟩ = false := own_ins h.cd hk
theorem TD.gb {g : Nat} (h : TD Sf Hf W base tb P (some ⟨g, 0, none⟩) ep cc ec) : base ≤ g ∧ g < W.heap.size ∧ g ≠ tb := ⟨(h.cd.lt g rfl).1, (h.cd.lt g rfl).2, ownA h.cd h.bx (by decide) g rfl⟩
/-- what is written into the code leaves the rest -/
theorem TD.wr {g : Nat} {op a b : Nat → Int} (h : TD Sf Hf W base tb P (some ⟨g, 0, none⟩) ep cc ec) (hk : ∀ k, k ≠ g → W'.heap[k]? = W.heap[k]?) (ho : Own W' base 36 3 (.slice (some ⟨g, 0, none⟩) P.n cc) P.n (inC op a b)) : TD Sf Hf W' base tb { P with op := op, a := a, b := b } (some ⟨g, 0, none⟩) ep cc ec :=
  ⟨(hk tb (fun e => h.gb.2.2 e.symm)).trans h.bx, ho, h.en.far fun k e => hk k fun e2 => ownC h.cd h.en (by decide) rfl (e2 ▸ e), h.lo, fr_keep h.fr fun j hj => hk j fun e => h.fc g 0 rfl (e ▸ hj), h.ft, h.fc, h.fe⟩
theorem TD.setA {g : Nat} (h : TD Sf Hf W base tb P (some ⟨g, 0, none⟩) ep cc ec) (k : Nat) (x : Int) : TD Sf Hf (W.setCell ⟨g, k * 3 + 1, none⟩ (.int .i64 x)) base tb { P with a := updI P.a k x } (some ⟨g, 0, none⟩) ep cc ec := by
  refine h.wr (op := P.op) (b := P.b) (fun j hj => Below.heap_setCell _ _ _ _ hj) ((h.cd.put (k * 3 + 1) [.int .i64 x]).congr fun j hj => ?_)
  unfold putF
  by_cases h1 : k * 3 + 1 ≤ j ∧ j < k * 3 + 1 + 1
  · have e : j = k * 3 + 1 := by omega
    subst e
    rw [if_pos (by simp), inC1, updI_at]
    simp
  · rw [if_neg (by simpa using h1)]
    unfold inC updI
    by_cases h2 : j % 3 = 1
    · rw [if_neg (by omega), if_pos h2, if_neg (by omega), if_pos h2, if_neg (by omega)]
    · by_cases h3 : j % 3 = 0
      · rw [if_pos h3, if_pos h3]
      · rw [if_neg h3, if_neg h2, if_neg h3, if_neg h2]
theorem TD.setO {g : Nat} (h : TD Sf Hf W base tb P (some ⟨g, 0, none⟩) ep cc ec) (k : Nat) (x : Int) : TD Sf Hf (W.setCell ⟨g, k * 3, none⟩ (.int .i64 x)) base tb { P with op := updI P.op k x } (some ⟨g, 0, none⟩) ep cc ec := by
  refine h.wr (a := P.a) (b := P.b) (fun j hj => Below.heap_setCell _ _ _ _ hj) ((h.cd.put (k * 3) [.int .i64 x]).congr fun j hj => ?_)
  unfold putF
  by_cases h1 : k * 3 ≤ j ∧ j < k * 3 + 1
  · have e : j = k * 3 := by omega
    subst e
    rw [if_pos (by simp), inC0, updI_at]
    simp
  · rw [if_neg (by simpa using h1)]
    unfold inC updI
    by_cases h3 : j % 3 = 0
    · rw [if_pos h3, if_pos h3, if_neg (by omega)]
    · rw [if_neg h3, if_neg h3]
theorem TD.setI {g : Nat} (h : TD Sf Hf W base tb P (some ⟨g, 0, none⟩) ep cc ec) (k : Nat) (o a b : Int) : TD Sf Hf (W.setCells g (k * 3) [.int .i64 o, .int .i64 a, .int .i64 b]) base tb (Go.Proofs.YtopggemomcoalaaGreat.setI P k o a b) (some ⟨g, 0, none⟩) ep cc ec := by
  refine h.wr (fun j hj => setCells_other g _ _ _ j hj) ((h.cd.put (k * 3) [.int .i64 o, .int .i64 a, .int .i64 b]).congr fun j hj => ?_)
  unfold putF
  by_cases h1 : k * 3 ≤ j ∧ j < k * 3 + 3
  · rw [if_pos (by simpa using h1)]
    have hj3 : j = k * 3 ∨ j = k * 3 + 1 ∨ j = k * 3 + 2 := by omega
    rcases hj3 with rfl | rfl | rfl
    · rw [inC0]; rw [if_pos rfl]; simp
    · rw [inC1]; rw [if_pos rfl]; simp
    · rw [inC2]; rw [if_pos rfl]; simp
  · rw [if_neg (by simpa using h1)]
    have hne : j / 3 ≠ k := by omega
    unfold inC
    dsimp only
    rw [if_neg hne, if_neg hne, if_neg hne]
theorem TD.setE {g : Nat} (h : TD Sf Hf W base tb P cp (some ⟨g, 0, none⟩) cc ec) (k : Nat) (x : Int) : TD Sf Hf (W.setCell ⟨g, k, none⟩ (.int .i64 x)) base tb { P with en := updI P.en k x } cp (some ⟨g, 0, none⟩) cc ec := by
  refine ⟨(Below.heap_setCell _ _ _ _ fun e => ownA h.en h.bx (by decide) g rfl e.symm).trans h.bx, h.cd.far fun j e => Below.heap_setCell _ _ _ _ fun e2 => ownC h.cd h.en (by decide) e (e2 ▸ rfl), (h.en.put k [.int .i64 x]).congr fun j hj => ?_, h.lo, fr_keep h.fr fun j hj => Below.heap_setCell _ _ _ _ fun e => h.fe g 0 rfl (show Sf (Addr.block ⟨g, k, none⟩) from e ▸ hj), h.ft, h.fc, h.fe⟩
  unfold putF iv updI
  by_cases h1 : k ≤ j ∧ j < k + 1
  · have e : j = k := by omega
    subst e
    rw [if_pos (by simp)]
    dsimp only
    rw [if_pos rfl]
    simp
  · rw [if_neg (by simpa using h1)]
    dsimp only
    rw [if_neg (by omega)]
set_option maxRecDepth 100000 in
theorem cjumps_any (o a b : Int) (w : World) : Calls Tryz.prog 105 #[.agg #[.int .i64 o, .int .i64 a, .int .i64 b]] w fun e w' => e = .returned (.bool (jmp o)) ∧ Below w.heap.size w w' := by
  have hb0 : Below w.heap.size w (w.alloc (.cells #[.int .i64 o, .int .i64 a, .int .i64 b] 36)) := (Below.refl _ w).alloc (Nat.le_refl _) _
  unfold jmp
  cases h1 : (o == 35) with
  | true =>
    go_enter Tryz.func105, Tryz.ntmps105
    go_wp2
    go_ret
    exact ⟨rfl, hb0⟩
  | false =>
    cases h2 : (o == 36) with
    | true =>
      go_enter Tryz.func105, Tryz.ntmps105
      go_wp2
      go_ret
      exact ⟨rfl, hb0⟩
    | false =>
      go_enter Tryz.func105, Tryz.ntmps105
      go_wp2
      go_ret
      exact ⟨rfl, hb0⟩
end Go.Proofs.YtopggemomcoalaaGreat
namespace Go.Proofs.YtopggemomcoalaaGreat
open Go.ChangeShapes Go.WideShapes Go.ChangeAt Go.RowKit
set_option linter.unusedVariables false
set_option linter.unusedSimpArgs false

/-! ### lead -/
def lkA (P : Pg) (t : Nat → Nat) (k : Nat) (i : Nat) : Int := if i < k ∧ jmp (P.op i) = true then ((t (P.a i).toNat : Nat) : Int) else P.a i
def lkE (P : Pg) (t : Nat → Nat) (j : Nat) (i : Nat) : Int := if i < j then (if P.en i = -1 then -1 else ((t (P.en i).toNat : Nat) : Int)) else P.en i
def leadK (P : Pg) (t : Nat → Nat) (k j : Nat) : Pg := { P with a := lkA P t k, en := lkE P t j }
theorem lkA_step {P : Pg} {t : Nat → Nat} {k : Nat} (hj : jmp (P.op k) = true) : updI (lkA P t k) k ((t (P.a k).toNat : Nat) : Int) = lkA P t (k + 1) := by
  funext i
  unfold lkA updI
  by_cases h : i = k
  · subst h; rw [if_pos rfl, if_pos ⟨Nat.lt_succ_self _, hj⟩]
  · rw [if_neg h]
    dsimp only
    by_cases h2 : i < k ∧ jmp (P.op i) = true
    · rw [if_pos h2, if_pos ⟨by omega, h2.2⟩]
    · rw [if_neg h2, if_neg (fun h3 => h2 ⟨by omega, h3.2⟩)]
theorem lkA_skip {P : Pg} {t : Nat → Nat} {k : Nat} (hj : jmp (P.op k) = false) : lkA P t (k + 1) = lkA P t k := by
  funext i
  unfold lkA
  by_cases h2 : i < k ∧ jmp (P.op i) = true
  · rw [if_pos h2, if_pos ⟨by omega, h2.2⟩]
  · rw [if_neg h2, if_neg (fun h3 => h2 ⟨by
      have : i ≠ k := fun e => by rw [e, hj] at h3; exact absurd h3.2 (by simp)
      omega, h3.2⟩)]
theorem lkE_step {P : Pg} {t : Nat → Nat} {j : Nat} (h0 : P.en j ≠ -1) : updI (lkE P t j) j ((t (P.en j).toNat : Nat) : Int) = lkE P t (j + 1) := by
  funext i
  unfold lkE updI
  by_cases h : i = j
  · subst h; rw [if_pos rfl, if_pos (Nat.lt_succ_self _), if_neg h0]
  · rw [if_neg h]
    dsimp only
    by_cases h2 : i < j
    · rw [if_pos h2, if_pos (show i < j + 1 by omega)]
    · rw [if_neg h2, if_neg (show ¬ i < j + 1 by omega)]
theorem lkE_skip {P : Pg} {t : Nat → Nat} {j : Nat} (h0 : P.en j = -1) : lkE P t (j + 1) = lkE P t j := by
  funext i
  unfold lkE
  by_cases h : i = j
  · subst h; rw [if_pos (Nat.lt_succ_self _), if_pos h0, if_neg (Nat.lt_irrefl _), h0]
  · by_cases h2 : i < j
    · rw [if_pos h2, if_pos (show i < j + 1 by omega)]
    · rw [if_neg h2, if_neg (show ¬ i < j + 1 by omega)]
theorem leadK_step {P : Pg} {t : Nat → Nat} {k j : Nat} (hj : jmp (P.op k) = true) : { leadK P t k j with a := updI (leadK P t k j).a k ((t (P.a k).toNat : Nat) : Int) } = leadK P t (k + 1) j := congrArg (fun f => ({ P with a := f, en := lkE P t j } : Pg)) (lkA_step hj)
theorem leadK_skip {P : Pg} {t : Nat → Nat} {k j : Nat} (hj : jmp (P.op k) = false) : leadK P t (k + 1) j = leadK P t k j := congrArg (fun f => ({ P with a := f, en := lkE P t j } : Pg)) (lkA_skip hj)
theorem leadK_ent {P : Pg} {t : Nat → Nat} {k j : Nat} (h0 : P.en j ≠ -1) : { leadK P t k j with en := updI (leadK P t k j).en j ((t (P.en j).toNat : Nat) : Int) } = leadK P t k (j + 1) := congrArg (fun f => ({ P with a := lkA P t k, en := f } : Pg)) (lkE_step h0)
theorem leadK_eskip {P : Pg} {t : Nat → Nat} {k j : Nat} (h0 : P.en j = -1) : leadK P t k (j + 1) = leadK P t k j := congrArg (fun f => ({ P with a := lkA P t k, en := f } : Pg)) (lkE_skip h0)
theorem leadK_zero (P : Pg) (t : Nat → Nat) : leadK P t 0 0 = P := by
  have e1 : lkA P t 0 = P.a := funext fun i => if_neg (by omega)
  have e2 : lkE P t 0 = P.en := funext fun i => if_neg (by omega)
  unfold leadK
  rw [e1, e2]
variable {Sf : Nat → Prop} {Hf : Nat → Option Obj} {base tb : Nat} {P : Pg} {cp ep : Option Addr} {cc ec : Nat}
/-- what is equal where it is looked at lies there, too -/
theorem TD.same {W : World} {Q : Pg} (h : TD Sf Hf W base tb P cp ep cc ec) (he : PEq P Q) : TD Sf Hf W base tb Q cp ep cc ec := by
  obtain ⟨e1, e2, e3, e4, e5, e6, e7, e8⟩ := he
  obtain ⟨h1, h2, h3, h4, h5, h6, h7, h8⟩ := h
  refine ⟨by rw [← e1, ← e2, ← e3, ← e4]; exact h1, ?_, ?_, h4, h5, h6, h7, h8⟩
  · rw [← e3]
    refine h2.congr fun j hj => ?_
    unfold inC
    rw [e5 _ (by omega), e6 _ (by omega), e7 _ (by omega)]
  · rw [← e4]
    exact h3.eqv fun j hj => e8 j (by omega)
theorem leadK_all {P : Pg} {t : Nat → Nat} : PEq (leadK P t P.n P.m) (leadP P t) := by
  refine ⟨rfl, rfl, rfl, rfl, fun _ _ => rfl, fun i hi => ?_, fun _ _ => rfl, fun j hj => ?_⟩
  · have hi : i < P.n := hi
    show (if i < P.n ∧ jmp (P.op i) = true then ((t (P.a i).toNat : Nat) : Int) else P.a i) = if jmp (P.op i) = true then ((t (P.a i).toNat : Nat) : Int) else P.a i
    by_cases h : jmp (P.op i) = true
    · rw [if_pos ⟨hi, h⟩, if_pos h]
    · rw [if_neg (fun h3 => h h3.2), if_neg h]
  · have hj : j < P.m := hj
    exact if_pos hj
set_option maxRecDepth 100000 in
set_option maxHeartbeats 8000000 in
theorem lead_any {t : Nat → Nat} {q : Option Addr} {N qc b2 : Nat} (W : World) (h : TD Sf Hf W base tb P cp ep cc ec) (ht : Own W b2 3 1 (.slice q N qc) N (iv fun x => ((t x : Nat) : Int))) (hne : ∀ k, (Value.slice ep P.m ec).ownBlock = some k → (Value.slice q N qc).ownBlock ≠ some k)
    (ha : ∀ i, i < P.n → jmp (P.op i) = true → 0 ≤ P.a i ∧ P.a i < N) (he : ∀ j, j < P.m → P.en j = -1 ∨ (0 ≤ P.en j ∧ P.en j < N)) (hn : P.n ≤ 4096 ∧ P.m ≤ 32) (hB : base ≤ W.heap.size) :
    Calls Tryz.prog 81 #[.pointer (some ⟨tb, 0, none⟩), .slice q N qc] W fun e W' => e = .returned (.tuple #[]) ∧ TD Sf Hf W' base tb (leadP P t) cp ep cc ec ∧ Below base W W' := by
  have H0 := tmh (And.intro ha (And.intro he (And.intro hn hne)))
  have HW := tmh (And.intro h (And.intro ht hB))
  obtain ⟨y0, y1, y2, y3⟩ := h.cells
  clear h ht ha he hn hne hB
  go_enter Tryz.func81, Tryz.ntmps81
  go_wp2_with fail
  go_loopw [13] (fun x wr => ∃ k : Nat, x = .int .i64 (k : Int) ∧ k ≤ P.n ∧ TD Sf Hf wr base tb (leadK P t k 0) cp ep cc ec ∧ Own wr b2 3 1 (.slice q N qc) N (iv fun x => ((t x : Nat) : Int)) ∧ Below base W wr) (fun x _ => P.n - (intOf x).toNat)
  case atStart => exact ⟨0, rfl, Nat.zero_le _, by rw [leadK_zero]; exact HW.out.1, HW.out.2.1, Below.refl _ _⟩
  case round =>
    obtain ⟨k, rfl, hk, hT, hto, hbr⟩ := hrel
    have z2 : wr.cell? ⟨tb, 2, none⟩ = some (.slice cp P.n cc) := hT.cells.2.2.1
    have z3 : wr.cell? ⟨tb, 3, none⟩ = some (.slice ep P.m ec) := hT.cells.2.2.2
    clear y0 y1 y2 y3
    by_cases hlt : k < P.n
    · have d1 : decide ((k : Int) < (P.n : Int)) = true := by simp; omega
      have d2 : decide (k < P.n) = true := by simp; omega
      have i0 : (0 : Int) ≤ (k : Int) := by omega
      have i1 : (k : Int) < (P.n : Int) := by omega
      have ek : IntKind.i64.wrap ((k : Int) + 1) = ((k + 1 : Nat) : Int) := by have := H0.out; rw [IntKind.wrap_i64]; omega
      have hm := meas0 hlt
      obtain ⟨g, hg⟩ := hT.ip (by show 0 < P.n; omega)
      subst hg
      have hI := hT.ins (k := k) hlt
      have x1 : wr.cell? ⟨g, k * 3 + 1, none⟩ = some (.int .i64 (P.a k)) := by rw [hI.1.2.1]; show some (Value.int .i64 (if k < k ∧ jmp (P.op k) = true then _ else P.a k)) = _; rw [if_neg (by omega)]
      have x0 : wr.cell? ⟨g, k * 3, none⟩ = some (.int .i64 (P.op k)) := hI.1.1
      have x2 : wr.cell? ⟨g, k * 3 + 2, none⟩ = some (.int .i64 (P.b k)) := hI.1.2.2
      clear hI
      have HJ := fun w => cjumps_any (P.op k) (P.a k) (P.b k) w
      have HR := tmh (And.intro hT (And.intro hto hbr))
      clear hT hto hbr hk
      cases hj : jmp (P.op k) with
      | false =>
        rw [hj] at HJ
        go_wp2_with (go_at_call 105; (with_reducible refine (HJ _).mono ?_); rintro e w1 ⟨rfl, hb1⟩)
        exact ⟨⟨k + 1, rfl, hlt, by rw [leadK_skip hj]; exact HR.out.1.later hb1, HR.out.2.1.later hb1, HR.out.2.2.trans (hb1.mono (Nat.le_trans HW.out.2.2 HR.out.2.2.size))⟩, hm⟩
      | true =>
        rw [hj] at HJ
        have hA := H0.out.1 k hlt hj
        have hN : 0 < N := by omega
        obtain ⟨gt, hgt⟩ : ∃ gt, q = some ⟨gt, 0, none⟩ := by
          rcases HR.out.2.1.form with ⟨_, h2⟩ | ⟨gt, c, h1, _⟩
          · omega
          · injection h1 with h1; exact ⟨gt, h1⟩
        subst hgt
        obtain ⟨A, hA2⟩ : ∃ A : Nat, P.a k = (A : Int) := ⟨(P.a k).toNat, by omega⟩
        rw [hA2] at x1 HJ hA
        have j0 : (0 : Int) ≤ (A : Int) := hA.1
        have j1 : (A : Int) < (N : Int) := hA.2
        go_upto_region 4 with (go_at_call 105; (with_reducible refine (HJ _).mono ?_); rintro e w1 ⟨rfl, hb1⟩; have R1 := tmh (And.intro (HR.out.1.later hb1) (And.intro (HR.out.2.1.later hb1) (HR.out.2.2.trans (hb1.mono (Nat.le_trans HW.out.2.2 HR.out.2.2.size))))); clear hb1)
        have u2 : w1.cell? ⟨tb, 2, none⟩ = some (.slice (some ⟨g, 0, none⟩) P.n cc) := R1.out.1.cells.2.2.1
        have hI := R1.out.1.ins (k := k) hlt
        have v1 : w1.cell? ⟨g, k * 3 + 1, none⟩ = some (.int .i64 (A : Int)) := by rw [hI.1.2.1]; show some (Value.int .i64 (if k < k ∧ jmp (P.op k) = true then _ else P.a k)) = _; rw [if_neg (by omega), hA2]
        have f1 := hI.2 (k * 3 + 1)
        have ct : w1.cell? ⟨gt, A, none⟩ = some (.int .i64 ((t A : Nat) : Int)) := R1.out.2.1.cell (j := A) (by omega)
        have HD := tmh (And.intro hA2 (And.intro hj hlt))
        clear z2 z3 x0 x1 x2 hI HJ HR hA hA2 hj
        go_region
        have hTA := TD.setA R1.out.1 k ((t A : Nat) : Int)
        have e1 : { leadK P t k 0 with a := updI (leadK P t k 0).a k ((t A : Nat) : Int) } = leadK P t (k + 1) 0 := by
          have := leadK_step (P := P) (t := t) (k := k) (j := 0) HD.out.2.1
          rw [HD.out.1, Int.toNat_natCast] at this
          exact this
        rw [e1] at hTA
        have hto2 : Own (w1.setCell ⟨g, k * 3 + 1, none⟩ (.int .i64 ((t A : Nat) : Int))) b2 3 1 (.slice (some ⟨gt, 0, none⟩) N qc) N (iv fun x => ((t x : Nat) : Int)) := R1.out.2.1.far fun j e => Below.heap_setCell _ _ _ _ fun e2 => ownC R1.out.1.cd R1.out.2.1 (by decide) rfl (e2 ▸ e)
        have hb2 : Below base W (w1.setCell ⟨g, k * 3 + 1, none⟩ (.int .i64 ((t A : Nat) : Int))) := R1.out.2.2.setCell (p := ⟨g, k * 3 + 1, none⟩) R1.out.1.gb.1 _
        generalize w1.setCell ⟨g, k * 3 + 1, none⟩ (.int .i64 ((t A : Nat) : Int)) = w2 at *
        clear u2 v1 f1 ct
        go_wp2_with fail
        exact ⟨⟨k + 1, rfl, hlt, hTA.later (below_drewNq _ w2 1), hto2.later (below_drewNq _ w2 1), hb2.trans ((below_drewNq _ w2 1).mono (Nat.le_trans HW.out.2.2 hb2.size))⟩, hm⟩
    · have d1 : decide ((k : Int) < (P.n : Int)) = false := by simp; omega
      have d2 : decide (k < P.n) = false := by simp; omega
      obtain rfl : k = P.n := by omega
      obtain ⟨w0, hw0⟩ : ∃ w0, w0 = wr := ⟨_, rfl⟩
      subst hw0
      have HR := tmh (And.intro hT (And.intro hto hbr))
      clear hT hto hbr hk hlt
      go_wp2_with fail
      go_loopw [52] (fun x wr => ∃ j : Nat, x = .int .i64 (j : Int) ∧ j ≤ P.m ∧ TD Sf Hf wr base tb (leadK P t P.n j) cp ep cc ec ∧ Own wr b2 3 1 (.slice q N qc) N (iv fun x => ((t x : Nat) : Int)) ∧ Below base W wr) (fun x _ => P.m - (intOf x).toNat)
      case atStart => exact ⟨0, rfl, Nat.zero_le _, HR.out.1, HR.out.2.1, HR.out.2.2⟩
      case round =>
        obtain ⟨j, rfl, hj, hT, hto, hbr⟩ := hrel
        have y3 : wr.cell? ⟨tb, 3, none⟩ = some (.slice ep P.m ec) := hT.cells.2.2.2
        clear z2 z3
        by_cases hlt : j < P.m
        · have d3 : decide ((j : Int) < (P.m : Int)) = true := by simp; omega
          have d4 : decide (j < P.m) = true := by simp; omega
          have i0 : (0 : Int) ≤ (j : Int) := by omega
          have i1 : (j : Int) < (P.m : Int) := by omega
          have ek : IntKind.i64.wrap ((j : Int) + 1) = ((j + 1 : Nat) : Int) := by have := H0.out; rw [IntKind.wrap_i64]; omega
          have hm := meas0 hlt
          obtain ⟨g, hg⟩ := hT.ePt (by show 0 < P.m; omega)
          subst hg
          have x0 : wr.cell? ⟨g, j, none⟩ = some (.int .i64 (P.en j)) := (hT.en.cell (j := j) (by show j < P.m * 1; omega)).trans (by show some (Value.int .i64 (if j < j then _ else P.en j)) = _; rw [if_neg (Nat.lt_irrefl _)])
          obtain ⟨cur, hcur, _⟩ := Own.block hT.en
          have f0 := frz hcur j
          have HS := tmh (And.intro hT (And.intro hto hbr))
          clear hT hto hbr hj hcur HR
          by_cases h0 : P.en j = -1
          · have n1 : (P.en j != -1) = false := by rw [h0]; rfl
            have n2 : (P.en j == -1) = true := by rw [h0]; rfl
            have E0 := tmh h0
            clear h0
            go_wp2_with fail
            exact ⟨⟨j + 1, rfl, hlt, by rw [leadK_eskip E0.out]; exact HS.out.1, HS.out.2.1, HS.out.2.2⟩, hm⟩
          · have n1 : (P.en j != -1) = true := by simpa using h0
            have n2 : (P.en j == -1) = false := by simpa using h0
            have hE := (H0.out.2.1 j hlt).resolve_left h0
            have E0 := tmh h0
            clear h0
            obtain ⟨gt, hgt⟩ : ∃ gt, q = some ⟨gt, 0, none⟩ := by
              rcases HS.out.2.1.form with ⟨_, h2⟩ | ⟨gt, c, h1, _⟩
              · omega
              · injection h1 with h1; exact ⟨gt, h1⟩
            subst hgt
            obtain ⟨A, hA2⟩ : ∃ A : Nat, P.en j = (A : Int) := ⟨(P.en j).toNat, by omega⟩
            have ct : wr.cell? ⟨gt, A, none⟩ = some (.int .i64 ((t A : Nat) : Int)) := HS.out.2.1.cell (j := A) (by omega)
            have j0 : (0 : Int) ≤ (A : Int) := by omega
            have j1 : (A : Int) < (N : Int) := by omega
            have HE2 := tmh hA2
            rw [hA2] at x0 n1 n2
            clear hA2 hE
            go_wp2_with fail
            go_region
            have hTA := TD.setE HS.out.1 j ((t A : Nat) : Int)
            have e1 : { leadK P t P.n j with en := updI (leadK P t P.n j).en j ((t A : Nat) : Int) } = leadK P t P.n (j + 1) := by
              have := leadK_ent (P := P) (t := t) (k := P.n) (j := j) E0.out
              rw [HE2.out, Int.toNat_natCast] at this
              exact this
            rw [e1] at hTA
            have hto2 : Own (wr.setCell ⟨g, j, none⟩ (.int .i64 ((t A : Nat) : Int))) b2 3 1 (.slice (some ⟨gt, 0, none⟩) N qc) N (iv fun x => ((t x : Nat) : Int)) := HS.out.2.1.far fun z e => Below.heap_setCell _ _ _ _ fun e2 => H0.out.2.2.2 g rfl (by have e2 : z = g := e2; rw [← e2]; exact e)
            have hb2 : Below base W (wr.setCell ⟨g, j, none⟩ (.int .i64 ((t A : Nat) : Int))) := HS.out.2.2.setCell (p := ⟨g, j, none⟩) (HS.out.1.en.lt g rfl).1 _
            generalize wr.setCell ⟨g, j, none⟩ (.int .i64 ((t A : Nat) : Int)) = w2 at *
            clear x0 f0 ct y3
            go_wp2_with fail
            exact ⟨⟨j + 1, rfl, hlt, hTA.later (below_drewNq _ w2 1), hto2.later (below_drewNq _ w2 1), hb2.trans ((below_drewNq _ w2 1).mono (Nat.le_trans HW.out.2.2 hb2.size))⟩, hm⟩
        · have d3 : decide ((j : Int) < (P.m : Int)) = false := by simp; omega
          have d4 : decide (j < P.m) = false := by simp; omega
          obtain rfl : j = P.m := by omega
          have HS := tmh (And.intro hT hbr)
          clear hT hto hbr hj hlt HR
          go_wp2_with fail
          go_end0
          exact ⟨rfl, HS.out.1.same leadK_all, HS.out.2⟩
end Go.Proofs.YtopggemomcoalaaGreat
