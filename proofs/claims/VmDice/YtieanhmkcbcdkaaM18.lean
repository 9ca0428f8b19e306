import Derived.Test.YtieanhmkcbcdkaaM15
import Derived.Test.YtieanhmkcbcdkaaM17
namespace Go.Proofs.Ytieanhmkcbcdkaa
open Go.ChangeShapes Go.WideShapes Go.ChangeAt Go.RowKit
set_option linter.unusedVariables false

/-! ### a new machine -/
def machL (code : Value) (cl : Cl) (p : Option Addr) (n c : Nat) (d s : Int) (wv : Value) : List Value :=
  [code] ++ (cvA cl p n c d s).toList ++ pairsL ++ [wv, .int .u64 d, .int .u64 s] ++ List.replicate 32 (.int .i64 0) ++ List.replicate 64 (.int .i64 0) ++ [.int .i64 0, .slice none 0 0, .int .i64 0]
def newM (K : Nat → Int) (d s : Int) (wv : Value) : Mc := ⟨wv, K, 0, fun _ => undef, d, s, fun _ => 0, fun _ => 0, 0, .slice none 0 0, 0⟩
def machC (code : Value) (cl : Cl) (p : Option Addr) (n c : Nat) (d s : Int) (wv : Value) (k : Nat) : Value := (machL code cl p n c d s wv).getD k undef
set_option maxRecDepth 100000 in
theorem mach_cells (code : Value) (cl : Cl) (p : Option Addr) (n c : Nat) (d s : Int) (wv : Value) (K : Nat → Int) : machL code cl p n c d s wv = cellsF (mF (machC code cl p n c d s wv) (newM K d s wv)) 157 := by kernel_rfl
set_option maxRecDepth 100000 in
theorem mach_built (pp : Option Addr) (pn pc : Nat) (cl : Cl) (p : Option Addr) (n c : Nat) (d s : Int) (wv : Value) : Try.prog.built 70 [(0, .slice pp pn pc), (1, .agg (cvA cl p n c d s)), (2, .agg pairsL.toArray), (3, .agg #[wv, .int .u64 d, .int .u64 s])] = some (machL (.slice pp pn pc) cl p n c d s wv).toArray := by kernel_rfl
set_option maxRecDepth 100000 in
theorem mach_cc (code : Value) (cl : Cl) (p : Option Addr) (n c : Nat) (d s : Int) (wv : Value) : CC (machC code cl p n c d s wv) cl code := by
  refine ⟨by kernel_rfl, by kernel_rfl, by kernel_rfl, by kernel_rfl, by kernel_rfl, by kernel_rfl, by kernel_rfl, by kernel_rfl, by kernel_rfl, by kernel_rfl, fun o ho => ?_⟩
  rcases ho with rfl | rfl | rfl | rfl | rfl | rfl | rfl | rfl | rfl | rfl | rfl | rfl | rfl | rfl | rfl | rfl | rfl | rfl
  all_goals kernel_rfl
theorem mach_one (code : Value) (cl : Cl) (p : Option Addr) (n c : Nat) (d s : Int) (q : Option Addr) (cc : Nat) (h : code.oneCell' = true) : (machL code cl p n c d s (.slice q n cc)).toArray.all (·.oneCell') = true := by
  refine all_oneCell_toArray fun v hv => ?_
  unfold machL at hv
  simp only [List.mem_append] at hv
  rcases hv with (((((hv | hv) | hv) | hv) | hv) | hv) | hv
  · simp at hv; rw [hv]; exact h
  · simp [cvA] at hv; rcases hv with rfl | rfl | rfl | rfl | rfl | rfl | rfl | rfl | rfl | rfl | rfl | rfl <;> rfl
  · exact (Array.all_eq_true_iff_forall_mem.1 pairsL_one) v (by simpa using hv)
  · simp at hv; rcases hv with rfl | rfl | rfl <;> rfl
  · rw [(List.mem_replicate.1 hv).2]; rfl
  · rw [(List.mem_replicate.1 hv).2]; rfl
  · simp at hv; rcases hv with rfl | rfl | rfl <;> rfl
theorem mach_len (code : Value) (cl : Cl) (p : Option Addr) (n c : Nat) (d s : Int) (wv : Value) : (machL code cl p n c d s wv).length = 157 := by kernel_rfl
theorem infoMach : (Try.prog.info? 70).map (fun i => (i.size, i.zero.map (·.cells.size))) = some (157, some 157) := by kernel_rfl
theorem Own.later {w w' : World} {base : Nat} {t : TypeId} {s m : Nat} {v : Value} {F : Nat → Value} (ho : Own w base t s v m F) (hb : Below w.heap.size w w') : Own w' base t s v m F := ho.far fun k hk => by
  rcases ho.form with ⟨h7, _⟩ | ⟨g, c, h7, h8, h9⟩
  · rw [h7] at hk; cases hk
  · rw [h7] at hk; cases hk; exact hb.block _ h9
theorem Own.lt {w : World} {base : Nat} {t : TypeId} {s m : Nat} {v : Value} {F : Nat → Value} (ho : Own w base t s v m F) : ∀ k, v.ownBlock = some k → base ≤ k ∧ k < w.heap.size := fun k hk => by
  rcases ho.form with ⟨h7, _⟩ | ⟨g, c, h7, h8, h9⟩
  · rw [h7] at hk; cases hk
  · rw [h7] at hk; cases hk; exact ⟨h8, h9⟩
/-- all that a new machine wants lies there -/
theorem gather {wq W : World} {mb n c cc : Nat} {p q : Option Addr} {code : Value} {cl : Cl} {d s : Int} {K : Nat → Int} {zs : Array Value} (hb : Below wq.heap.size wq W) (hm : W.heap[mb]? = some (.cells zs 70 (0, 0))) (hmb : wq.heap.size ≤ mb)
    (hO : Own W wq.heap.size 2 1 (.slice q n cc) n (iv K)) (hd : (Value.slice q n cc).ownBlock ≠ some mb) :
    MW wq (W.setRow mb (machL code cl p n c d s (.slice q n cc)).toArray) wq.heap.size mb n (machC code cl p n c d s (.slice q n cc)) (newM K d s (.slice q n cc)) := by
  have hrow := setRow_heap W mb zs (machL code cl p n c d s (.slice q n cc)).toArray _ _ hm
  refine ⟨?_, ?_, Own.nil0, hd, by simp [newM, Value.ownBlock], fun k _ => by simp [newM, Value.ownBlock], setRow_below _ hb hmb⟩
  · refine Own.mk' hrow (by rw [List.size_toArray, mach_len]) (Nat.le_refl _) (by unfold maxLen; omega) hmb fun j hj => ?_
    rw [mach_cells code cl p n c d s (.slice q n cc) K]
    rw [List.getElem?_toArray, cellsF_at _ (by omega)]
  · exact hO.far fun k hk => setRow_far _ _ _ _ fun e => hd (by rw [← e]; exact hk)
theorem step_alloc_row {P : Program} {ops : Array Oper} {o : Oper} {a : Act} {w : World} {K : Act → World → Prop} {Q : Exit → Act → World → Prop} {E : Prop} (hg : o.guard = none) (ty : TypeId) (hop : o.op = .alloc ty) (i : TypeInfo) (z : Value) (hi : P.info? ty = some i) (hz : i.zero = some z)
    (hK : K (a.put o.dst (.pointer (some ⟨w.heap.size, 0, none⟩))) (w.alloc (.cells z.cells ty))) : if Region.wanted o (yielded ops a.tmps) = true then Oper.wp P o a w K Q else E := by
  have hw : Region.wanted o (yielded ops a.tmps) = true := by simp [Region.wanted, hg]
  rw [if_pos hw]
  unfold Oper.wp execOp
  simp only [hop]
  simp [Instr.alloc, zeroValue, typeInfo, hi, hz, newVar, newRow, newObj, go_sem]
  exact hK
theorem step_build_row {P : Program} {ops : Array Oper} {o : Oper} {a : Act} {w : World} {K : Act → World → Prop} {Q : Exit → Act → World → Prop} {E : Prop} (hg : o.guard = none) (t : TypeId) (parts : Array (Nat × Operand)) (hop : o.op = .build t parts) (cells : Array Value) (vs : List (Nat × Value)) (hv : (parts.map fun (i, x) => (i, a.eval x)).toList = vs) (hb : P.built t vs = some cells)
    (hK : K (a.put o.dst (.agg cells)) w) : if Region.wanted o (yielded ops a.tmps) = true then Oper.wp P o a w K Q else E := by
  have hw : Region.wanted o (yielded ops a.tmps) = true := by simp [Region.wanted, hg]
  rw [if_pos hw]
  refine wp_build t parts hop (by rw [hv, hb]; rfl) ?_
  rw [hv, hb]
  exact hK
theorem yields_build {P : Program} {a : Act} {o : Oper} {W : World} (t : TypeId) (parts : Array (Nat × Operand)) (hop : o.op = .build t parts) (cells : Array Value) (vs : List (Nat × Value)) (hv : (parts.map fun (i, x) => (i, a.eval x)).toList = vs) (hb : P.built t vs = some cells) : (execOp a.eval o).run P W = .ok (.value (.agg cells)) W := by
  unfold execOp
  simp only [hop, Sem.run_bind, run_build W t _ cells (hv ▸ hb), Result.andThen_ok]
  rfl
theorem step_store_row {P : Program} {ops : Array Oper} {o : Oper} {a : Act} {w : World} {K : Act → World → Prop} {Q : Exit → Act → World → Prop} {E : Prop} (hg : o.guard = none) (ty : TypeId) (x y : Operand) (ho : o.op = .store ty x y)
    (g : Nat) (cells : Array Value) (hx : a.eval x = .pointer (some ⟨g, 0, none⟩)) (hy : a.eval y = .agg cells)
    (t : TypeId) (old : Array Value) (hgb : w.heap[g]? = some (.cells old t (0, 0))) (hi : (P.info? ty).map (·.size) = some cells.size)
    (hold : old.size = cells.size) (h1 : cells.all (·.oneCell') = true)
    (h : K (a.put o.dst undef) (w.setRow g cells)) : if Region.wanted o (yielded ops a.tmps) = true then Oper.wp P o a w K Q else E := by
  have hw : Region.wanted o (yielded ops a.tmps) = true := by simp [Region.wanted, hg]
  rw [if_pos hw]
  exact wp_store_row ty x y ho g cells hx hy t old hgb hi hold h1 h
end Go.Proofs.Ytieanhmkcbcdkaa
