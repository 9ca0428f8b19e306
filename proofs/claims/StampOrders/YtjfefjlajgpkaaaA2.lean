import Derived.Test.YtjfefjlajgpkaaaW0
import Derived.Test.YtjfefjlajgpkaaaA3
import Derived.BigQuiet
import Derived.BigRegion
namespace Go.Proofs.Ytjfefjlajgpkaaa
open Go.ChangeShapes Go.WideShapes Go.ChangeAt Go.RowKit
set_option linter.unusedVariables false

def markC (k x : Nat) : Value :=
  match x % 6 with
  | 0 => .int .u64 0
  | 1 => .int .i64 0
  | 2 => .int .u64 0
  | 3 => .int .i64 (-1 - (k : Int))
  | 4 => .int .i64 (-1 - ((x / 6 : Nat) : Int))
  | _ => .int .i64 0
def tailC (k x : Nat) : Value :=
  match x % 6 with
  | 0 => .int .u64 0
  | 2 => .int .u64 0
  | 5 => .int .i64 (1 + (k : Int))
  | _ => .int .i64 0
def evL (k i : Nat) : List Value := [.int .u64 0, .int .i64 0, .int .u64 0, .int .i64 (-1 - (k : Int)), .int .i64 (-1 - (i : Int)), .int .i64 0]
theorem evL_at (k i x : Nat) (h : i * 6 ≤ x ∧ x < i * 6 + 6) : (evL k i).getD (x - i * 6) undef = markC k x := by
  obtain ⟨r, hr, rfl⟩ : ∃ r, r < 6 ∧ x = i * 6 + r := ⟨x - i * 6, by omega, by omega⟩
  have e1 : (i * 6 + r) % 6 = r := by omega
  have e2 : (i * 6 + r) / 6 = i := by omega
  have e3 : i * 6 + r - i * 6 = r := by omega
  unfold markC
  rw [e1, e2, e3]
  match r, hr with
  | 0, _ => rfl
  | 1, _ => rfl
  | 2, _ => rfl
  | 3, _ => rfl
  | 4, _ => rfl
  | 5, _ => rfl
def zeroC (x : Nat) : Value :=
  match x % 6 with
  | 0 => .int .u64 0
  | 2 => .int .u64 0
  | _ => .int .i64 0
def zEv : Value := .agg #[.int .u64 0, .int .i64 0, .int .u64 0, .int .i64 0, .int .i64 0, .int .i64 0]
theorem mod6 (x : Nat) : x % 6 = 0 ∨ x % 6 = 1 ∨ x % 6 = 2 ∨ x % 6 = 3 ∨ x % 6 = 4 ∨ x % 6 = 5 := by omega
theorem zeroC_eq (x : Nat) : zEv.cells[x % zEv.cells.size]! = zeroC x := by
  have h6 : zEv.cells.size = 6 := rfl
  rw [h6]
  unfold zeroC
  rcases mod6 x with h | h | h | h | h | h <;> rw [h] <;> rfl
theorem zeros_eq (k : Nat) : (Builtin.zeroCells zEv.cells k).toList = cellsF zeroC (k * 6) := by
  unfold Builtin.zeroCells
  rw [Array.toList_map, Array.toList_range]
  have h6 : zEv.cells.size = 6 := rfl
  rw [h6]
  exact cellsF_congr (fun j _ => zeroC_eq j)
theorem zeroC_one (x : Nat) : (zeroC x).oneCell' = true := by
  unfold zeroC
  split <;> rfl
theorem zeros_one : ∀ u ∈ (Builtin.zeroCells zEv.cells 70).toList, u.oneCell' = true := by
  rw [zeros_eq]
  intro u hu
  unfold cellsF at hu
  obtain ⟨j, _, rfl⟩ := List.mem_map.1 hu
  exact zeroC_one j
theorem zeroC_add (x m : Nat) : zeroC (x - m * 6) = zeroC x ∨ x < m * 6 := by
  by_cases h : x < m * 6
  · exact .inr h
  · left
    unfold zeroC
    rw [show (x - m * 6) % 6 = x % 6 by omega]
theorem tail_zero (k x : Nat) (h : x % 6 ≠ 5) : tailC k x = zeroC x := by
  unfold tailC zeroC
  rcases mod6 x with h | h | h | h | h | h <;> rw [h] <;> first | rfl | omega
theorem tail_five (k x : Nat) (h : x % 6 = 5) : tailC k x = .int .i64 (1 + (k : Int)) := by
  unfold tailC
  rw [h]
  rfl
/-- what a list that has grown holds: from i on still zeros -/
def partC (m k i x : Nat) : Value := if x < m * 6 then markC k x else if x < i * 6 then tailC k x else zeroC x
theorem infoEvS : (Try.prog.info? 51).map (·.size) = some 6 := by kernel_rfl
theorem evOne (a b c : Int) : (#[.int .u64 0, .int .i64 0, .int .u64 0, .int .i64 a, .int .i64 b, .int .i64 c] : Array Value).all (·.oneCell') = true := by simp [Value.oneCell']
theorem store_ev {ops : Array Oper} {rest : List Oper} {op : Oper} {a : Act} {w : World} {Q : Exit → Act → World → Prop} (hgd : op.guard = none) (x y : Operand) (ho : op.op = .store 51 x y) (g o : Nat) (p q r : Int)
    (hx : a.eval x = .pointer (some ⟨g, o, none⟩)) (hy : a.eval y = .agg #[.int .u64 0, .int .i64 0, .int .u64 0, .int .i64 p, .int .i64 q, .int .i64 r]) (ht : Hid (w.there g o 6))
    (h : wpList Try.prog ops Q rest (a.put op.dst undef) (w.setCells g o [.int .u64 0, .int .i64 0, .int .u64 0, .int .i64 p, .int .i64 q, .int .i64 r])) : wpList Try.prog ops Q (op :: rest) a w :=
  wpList_store_mid hgd 51 x y ho g o _ hx hy ht.out infoEvS (evOne _ _ _) h
/-- the first k lists are written full -/
def Full (n k : Nat) (M : Nat → Nat) (F : Nat → Nat → Value) : Prop := ∀ j, j < k → ∀ x, x < M j * 6 → F j x = markC j x
structure P1 (w wr : World) (base Lb n k : Nat) (V : Nat → Value) (M : Nat → Nat) (F : Nat → Nat → Value) : Prop where
  ls : Lists wr base 51 6 n V M F
  full : Full n k M F
  bel : Below base w wr
  keep : wr.heap[Lb]? = w.heap[Lb]?
theorem P1.step {w wr : World} {base Lb n k i : Nat} {V : Nat → Value} {M : Nat → Nat} {F : Nat → Nat → Value} (h : P1 w wr base Lb n k V M F) (hk : k < n) (hi : i < M k) (hF : ∀ x, x < i * 6 → F k x = markC k x) {g c : Nat} (hv : V k = .slice (some ⟨g, 0, none⟩) (M k) c) (hLo : ∀ k, k < n → (V k).ownBlock ≠ some Lb) :
    ∃ F', P1 w (wr.setCells g (i * 6) (evL k i)) base Lb n k V M F' ∧ ∀ x, x < (i + 1) * 6 → F' k x = markC k x := by
  have hb : base ≤ g := by
    have := h.ls.own k hk
    rw [hv] at this
    obtain ⟨_, _, _, _, _, hb, _⟩ := this.block
    exact hb
  refine ⟨_, ⟨h.ls.put hk hv (i * 6) (evL k i), fun j hj x hx => ?_, setCells_below _ _ _ h.bel hb, ?_⟩, fun x hx => ?_⟩
  · rw [if_neg (by omega)]
    exact h.full j hj x hx
  · rw [setCells_other g _ _ _ Lb ?_]
    · exact h.keep
    · rintro rfl
      exact hLo k hk (by rw [hv]; rfl)
  · rw [if_pos rfl]
    unfold putF
    by_cases hc : i * 6 ≤ x ∧ x < i * 6 + (evL k i).length
    · rw [if_pos hc]
      exact evL_at k i x hc
    · rw [if_neg hc]
      have : (evL k i).length = 6 := rfl
      exact hF x (by omega)

/-- the k lists that have grown are marked behind their ends -/
def Done (k : Nat) (M M' : Nat → Nat) (F' : Nat → Nat → Value) : Prop := ∀ j, j < k → M' j = M j + 70 ∧ ∀ x, x < (M j + 70) * 6 → F' j x = partC (M j) j (M j + 70) x
theorem P1.to {w wr : World} {base Lb n : Nat} {V : Nat → Value} {M : Nat → Nat} {F : Nat → Nat → Value} (h : P1 w wr base Lb n n V M F) (hl : ∃ cur fr, w.heap[Lb]? = some (.cells cur 23 fr)) : P2 w wr base Lb 51 23 6 n 0 0 V M markC V M markC (.slice none 0 0) :=
  ⟨⟨fun j hj => (h.ls.own j hj).congr fun x hx => h.full j hj x hx, h.ls.apart⟩, ⟨fun j hj => by omega, fun j k hj => by omega⟩, fun j hj => by omega, fun j i hj => by omega, World.ownsRow_nil _ _ _ _, (by intro e; cases e), h.bel, h.keep, hl⟩
theorem infoEv' : (Try.prog.info? 51).map (fun i => (i.zero, i.size, i.bytes)) = some (some zEv, 6, 48) := by kernel_rfl
theorem infoEvs' : (Try.prog.info? 23).map (fun i => (i.zero, i.size, i.bytes)) = some (some (.slice none 0 0), 1, 24) := by kernel_rfl
theorem infoP {i? : Option TypeInfo} {z : Value} {s b : Nat} (h : i?.map (fun i => (i.zero, i.size, i.bytes)) = some (some z, s, b)) : ∃ i, i? = some i ∧ i.zero = some z ∧ i.size = s ∧ i.bytes = b := by
  cases i? with
  | none => cases h
  | some i =>
    simp at h
    exact ⟨i, rfl, h.1, h.2.1, h.2.2⟩
theorem neT : (51 : TypeId) ≠ 23 := by decide
/-- a list grows by 70 zeros -/
theorem P2.zeros {w wr : World} {base Lb n k : Nat} {V : Nat → Value} {M : Nat → Nat} {V' : Nat → Value} {M' : Nat → Nat} {F' : Nat → Nat → Value} {mv : Value} (h : P2 w wr base Lb 51 23 6 n k k V M markC V' M' F' mv) (hd : Done k M M' F') (hk : k < n) (hM : M k ≤ 1000000000) (hbase : base ≤ wr.heap.size) :
    ∃ v' w1, (Builtin.append_ #[23, 3] 23 #[V k, .int .i64 70]).run Try.prog wr = .ok v' w1 ∧ (∃ g c, v' = .slice (some ⟨g, 0, none⟩) (M k + 70) c) ∧ wr.heap.size ≤ w1.heap.size ∧
      P2 w w1 base Lb 51 23 6 n (k + 1) k V M markC (ext V' k v') (ext M' k (M k + 70)) (ext F' k (partC (M k) k (M k))) mv ∧ Done k M (ext M' k (M k + 70)) (ext F' k (partC (M k) k (M k))) := by
  obtain ⟨i0, hi, hz, hs, hb⟩ := infoP infoEv'
  obtain ⟨v', w1, hr, hown, hg, hat, hold⟩ := run_append_own_zeros (P := Try.prog) wr base 23 3 23 51 i0 zEv .i64 .i64 6 48 Try.underlying23 Try.underlying3 hi hz hs hb rfl (by decide) (V k) (M k) _ (h.ls.own k hk) 70 (by decide) zeros_one (by unfold maxLen; omega) (by omega) hbase
  rw [zeros_eq, cellsF_append, ← Nat.add_mul] at hown
  have ho : Own w1 base 51 6 v' (M k + 70) (partC (M k) k (M k)) := by
    have h1 : Own w1 base 51 6 v' (M k + 70) _ := hown
    refine h1.congr fun x hx => ?_
    unfold partC
    by_cases hc : x < M k * 6
    · rw [if_pos hc, if_pos hc]
    · rw [if_neg hc, if_neg hc, if_neg hc]
      rcases zeroC_add x (M k) with h2 | h2
      · exact h2
      · omega
  have hform : ∃ g c, v' = .slice (some ⟨g, 0, none⟩) (M k + 70) c := by
    rcases ho.form with ⟨_, h2⟩ | ⟨g, c, h2, _⟩
    · omega
    · exact ⟨g, c, h2⟩
  refine ⟨v', w1, hr, hform, hg.size, h.grow neT hk (Nat.le_refl _) hbase ho hold hg hat ?_, fun j hj => ?_⟩
  · obtain ⟨g, c, rfl⟩ := hform
    intro e
    cases e
  · rw [ext_ne _ _ _ (by omega), ext_ne _ _ _ (by omega)]
    exact hd j hj
/-- one mark behind a list's end -/
theorem P2.mark {w wr : World} {base Lb n k i : Nat} {V : Nat → Value} {M : Nat → Nat} {V' : Nat → Value} {M' : Nat → Nat} {F' : Nat → Nat → Value} {mv : Value} (h : P2 w wr base Lb 51 23 6 n (k + 1) k V M markC V' M' F' mv) (hd : Done k M M' F') {g c : Nat} (hv : V' k = .slice (some ⟨g, 0, none⟩) (M' k) c) (hi : M k ≤ i)
    (hF : ∀ x, x < (M k + 70) * 6 → F' k x = partC (M k) k i x) : ∃ F'', P2 w (wr.setCell ⟨g, i * 6 + 5, none⟩ (.int .i64 (1 + (k : Int)))) base Lb 51 23 6 n (k + 1) k V M markC V' M' F'' mv ∧ Done k M M' F'' ∧ ∀ x, x < (M k + 70) * 6 → F'' k x = partC (M k) k (i + 1) x := by
  refine ⟨_, h.put neT hv (o := i * 6 + 5) (by omega) [.int .i64 (1 + (k : Int))], fun j hj => ?_, fun x hx => ?_⟩
  · obtain ⟨h1, h2⟩ := hd j hj
    refine ⟨h1, fun x hx => ?_⟩
    show (if j = k then _ else F' j) x = _
    rw [if_neg (by omega)]
    exact h2 x hx
  · show (if k = k then putF (F' k) (i * 6 + 5) [Value.int .i64 (1 + (k : Int))] else F' k) x = _
    rw [if_pos rfl]
    unfold putF
    by_cases hc : i * 6 + 5 ≤ x ∧ x < i * 6 + 5 + [Value.int .i64 (1 + (k : Int))].length
    · rw [if_pos hc]
      simp only [List.length_singleton] at hc
      obtain rfl : x = i * 6 + 5 := by omega
      unfold partC
      rw [if_neg (by omega), if_pos (by omega), tail_five _ _ (by omega)]
      simp
    · rw [if_neg hc, hF x hx]
      simp only [List.length_singleton] at hc
      unfold partC
      by_cases h1 : x < M k * 6
      · rw [if_pos h1, if_pos h1]
      · rw [if_neg h1, if_neg h1]
        by_cases h2 : x < i * 6
        · rw [if_pos h2, if_pos (by omega)]
        · rw [if_neg h2]
          by_cases h3 : x < (i + 1) * 6
          · rw [if_pos h3, tail_zero _ _ (by omega)]
          · rw [if_neg h3]

theorem P2.quiet {w wr : World} {base Lb : Nat} {t tS : TypeId} {s n k mm : Nat} {V : Nat → Value} {M : Nat → Nat} {mark : Nat → Nat → Value} {V' : Nat → Value} {M' : Nat → Nat} {F' : Nat → Nat → Value} {mv : Value} (h : P2 w wr base Lb t tS s n k mm V M mark V' M' F' mv) (q : Nat) : P2 w (wr.drewN q) base Lb t tS s n k mm V M mark V' M' F' mv :=
  ⟨⟨fun j hj => (h.ls.own j hj).far fun _ _ => rfl, h.ls.apart⟩, ⟨fun j hj => (h.ls'.own j hj).far fun _ _ => rfl, h.ls'.apart⟩, h.pos, h.cross, h.more.far fun _ _ => rfl, h.notL, h.bel.trans ⟨rfl, rfl, rfl, Nat.le_refl _, fun _ _ => rfl⟩, h.keep, h.lbt⟩
theorem mark6 (k i : Nat) : markC k (i * 6) = .int .u64 0 ∧ markC k (i * 6 + 1) = .int .i64 0 ∧ markC k (i * 6 + 2) = .int .u64 0 ∧ markC k (i * 6 + 3) = .int .i64 (-1 - (k : Int)) ∧ markC k (i * 6 + 4) = .int .i64 (-1 - (i : Int)) ∧ markC k (i * 6 + 5) = .int .i64 0 := by
  have e : ∀ r, r < 6 → (i * 6 + r) % 6 = r ∧ (i * 6 + r) / 6 = i := fun r hr => ⟨by omega, by omega⟩
  have e0 : (i * 6) % 6 = 0 := by omega
  refine ⟨?_, ?_, ?_, ?_, ?_, ?_⟩
  · unfold markC
    rw [e0]
    rfl
  · unfold markC
    rw [(e 1 (by decide)).1]
    rfl
  · unfold markC
    rw [(e 2 (by decide)).1]
    rfl
  · unfold markC
    rw [(e 3 (by decide)).1]
    rfl
  · unfold markC
    rw [(e 4 (by decide)).1, (e 4 (by decide)).2]
    rfl
  · unfold markC
    rw [(e 5 (by decide)).1]
    rfl
theorem tail6 (k i : Nat) : tailC k (i * 6) = .int .u64 0 ∧ tailC k (i * 6 + 1) = .int .i64 0 ∧ tailC k (i * 6 + 2) = .int .u64 0 ∧ tailC k (i * 6 + 3) = .int .i64 0 ∧ tailC k (i * 6 + 4) = .int .i64 0 ∧ tailC k (i * 6 + 5) = .int .i64 (1 + (k : Int)) := by
  have e : ∀ r, r < 6 → (i * 6 + r) % 6 = r := fun r hr => by omega
  have e0 : (i * 6) % 6 = 0 := by omega
  refine ⟨?_, ?_, ?_, ?_, ?_, ?_⟩
  · unfold tailC
    rw [e0]
    rfl
  · unfold tailC
    rw [e 1 (by decide)]
    rfl
  · unfold tailC
    rw [e 2 (by decide)]
    rfl
  · unfold tailC
    rw [e 3 (by decide)]
    rfl
  · unfold tailC
    rw [e 4 (by decide)]
    rfl
  · unfold tailC
    rw [e 5 (by decide)]
    rfl
theorem neq_ev (p q r : Int) (W : World) : (binOp .neq 51 (.agg #[.int .u64 0, .int .i64 0, .int .u64 0, .int .i64 p, .int .i64 q, .int .i64 r]) (.agg #[.int .u64 0, .int .i64 0, .int .u64 0, .int .i64 p, .int .i64 q, .int .i64 r])).run Try.prog W = .ok (.bool false) W := by
  go_simp
theorem wr_small (a : Int) (h0 : -9223372036854775808 ≤ a) (h1 : a ≤ 9223372036854775807) : IntKind.i64.wrap a = a := by
  rw [IntKind.wrap_i64]
  omega
/-- what the last look reads -/
theorem P2.reads {w wr : World} {base Lb n a : Nat} {V : Nat → Value} {M : Nat → Nat} {V' : Nat → Value} {M' : Nat → Nat} {F' : Nat → Nat → Value} {mv : Value} (h : P2 w wr base Lb 51 23 6 n n n V M markC V' M' F' mv) (hd : Done n M M' F') (ha : a < n) :
    ∃ hb hc g c p cl, mv = .slice (some ⟨hb, 0, none⟩) n hc ∧ wr.cell? ⟨hb, a, none⟩ = some (.slice (some ⟨g, 0, none⟩) (M a + 70) c) ∧ V a = .slice p (M a) cl ∧
      (∀ i, i < M a → ∃ gl, p = some ⟨gl, 0, none⟩ ∧ wr.cell? ⟨gl, i * 6, none⟩ = some (.int .u64 0) ∧ wr.cell? ⟨gl, i * 6 + 1, none⟩ = some (.int .i64 0) ∧ wr.cell? ⟨gl, i * 6 + 2, none⟩ = some (.int .u64 0) ∧ wr.cell? ⟨gl, i * 6 + 3, none⟩ = some (.int .i64 (-1 - (a : Int))) ∧ wr.cell? ⟨gl, i * 6 + 4, none⟩ = some (.int .i64 (-1 - (i : Int))) ∧ wr.cell? ⟨gl, i * 6 + 5, none⟩ = some (.int .i64 0) ∧
        wr.cell? ⟨g, i * 6, none⟩ = some (.int .u64 0) ∧ wr.cell? ⟨g, i * 6 + 1, none⟩ = some (.int .i64 0) ∧ wr.cell? ⟨g, i * 6 + 2, none⟩ = some (.int .u64 0) ∧ wr.cell? ⟨g, i * 6 + 3, none⟩ = some (.int .i64 (-1 - (a : Int))) ∧ wr.cell? ⟨g, i * 6 + 4, none⟩ = some (.int .i64 (-1 - (i : Int))) ∧ wr.cell? ⟨g, i * 6 + 5, none⟩ = some (.int .i64 0)) ∧
      (∀ i, M a ≤ i → i < M a + 70 → wr.cell? ⟨g, i * 6, none⟩ = some (.int .u64 0) ∧ wr.cell? ⟨g, i * 6 + 1, none⟩ = some (.int .i64 0) ∧ wr.cell? ⟨g, i * 6 + 2, none⟩ = some (.int .u64 0) ∧ wr.cell? ⟨g, i * 6 + 3, none⟩ = some (.int .i64 0) ∧ wr.cell? ⟨g, i * 6 + 4, none⟩ = some (.int .i64 0) ∧ wr.cell? ⟨g, i * 6 + 5, none⟩ = some (.int .i64 (1 + (a : Int)))) := by
  obtain ⟨hb, hc, hmv⟩ : ∃ hb hc, mv = .slice (some ⟨hb, 0, none⟩) n hc := by
    rcases h.more.form with ⟨_, h2⟩ | ⟨g, c, h2, _⟩
    · omega
    · exact ⟨g, c, h2⟩
  have hmo := h.more
  rw [hmv] at hmo
  have ho' := h.ls'.own a ha
  obtain ⟨hM', hF'⟩ := hd a ha
  rw [hM'] at ho'
  obtain ⟨g, c, hv'⟩ : ∃ g c, V' a = .slice (some ⟨g, 0, none⟩) (M a + 70) c := by
    rcases ho'.form with ⟨_, h2⟩ | ⟨g, c, h2, _⟩
    · omega
    · exact ⟨g, c, h2⟩
  rw [hv'] at ho'
  have ho := h.ls.own a ha
  have hcell := hmo.cell (j := a) (by omega)
  rw [hv'] at hcell
  have cg : ∀ x, x < (M a + 70) * 6 → wr.cell? ⟨g, x, none⟩ = some (partC (M a) a (M a + 70) x) := fun x hx => by rw [← hF' x hx]; exact ho'.cell hx
  obtain ⟨p, cl, hv, hp⟩ : ∃ p cl, V a = .slice p (M a) cl ∧ (0 < M a → ∃ gl, p = some ⟨gl, 0, none⟩ ∧ ∀ x, x < M a * 6 → wr.cell? ⟨gl, x, none⟩ = some (markC a x)) := by
    rcases ho.form with ⟨h1, h2⟩ | ⟨gl, cl, h1, _⟩
    · exact ⟨none, 0, by rw [h1, h2], fun h => by omega⟩
    · refine ⟨_, _, h1, fun _ => ⟨gl, rfl, fun x hx => ?_⟩⟩
      rw [h1] at ho
      exact ho.cell hx
  refine ⟨hb, hc, g, c, p, cl, hmv, hcell, hv, fun i hi => ?_, fun i h1 h2 => ?_⟩
  · obtain ⟨gl, hpl, hg⟩ := hp (by omega)
    obtain ⟨m0, m1, m2, m3, m4, m5⟩ := mark6 a i
    have cg' : ∀ x, x < M a * 6 → wr.cell? ⟨g, x, none⟩ = some (markC a x) := fun x hx => by
      rw [cg x (by omega)]
      unfold partC
      rw [if_pos hx]
    refine ⟨gl, hpl, ?_, ?_, ?_, ?_, ?_, ?_, ?_, ?_, ?_, ?_, ?_, ?_⟩
    · rw [hg _ (by omega), m0]
    · rw [hg _ (by omega), m1]
    · rw [hg _ (by omega), m2]
    · rw [hg _ (by omega), m3]
    · rw [hg _ (by omega), m4]
    · rw [hg _ (by omega), m5]
    · rw [cg' _ (by omega), m0]
    · rw [cg' _ (by omega), m1]
    · rw [cg' _ (by omega), m2]
    · rw [cg' _ (by omega), m3]
    · rw [cg' _ (by omega), m4]
    · rw [cg' _ (by omega), m5]
  · obtain ⟨m0, m1, m2, m3, m4, m5⟩ := tail6 a i
    have cg' : ∀ x, M a * 6 ≤ x → x < (M a + 70) * 6 → wr.cell? ⟨g, x, none⟩ = some (tailC a x) := fun x hx hx2 => by
      rw [cg x hx2]
      unfold partC
      rw [if_neg (by omega), if_pos hx2]
    refine ⟨?_, ?_, ?_, ?_, ?_, ?_⟩
    · rw [cg' _ (by omega) (by omega), m0]
    · rw [cg' _ (by omega) (by omega), m1]
    · rw [cg' _ (by omega) (by omega), m2]
    · rw [cg' _ (by omega) (by omega), m3]
    · rw [cg' _ (by omega) (by omega), m4]
    · rw [cg' _ (by omega) (by omega), m5]
end Go.Proofs.Ytjfefjlajgpkaaa
