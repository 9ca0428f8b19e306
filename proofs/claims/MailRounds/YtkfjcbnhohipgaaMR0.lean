import Derived.Test.YtkfjcbnhohipgaaMC1
import Derived.BigQuiet
import Derived.Deep.RegionLaw
import Derived.Deep.RegionHeld3
import Derived.Deep.Cut
import Derived.Deep.DeepCutAuto
import Derived.Deep.CutBlock
import Derived.Deep.CutRange
import Derived.Deep.AppendLies
import Derived.Handy
import Derived.Lib.RabinKarpLaws
namespace Go.Proofs.Ytkfjcbnhohipgaa
open Go.ChangeShapes Go.WideShapes Go.ChangeAt Go.RowKit
set_option linter.unusedVariables false
set_option linter.unusedSimpArgs false


def hls (f : Hf) : List (Int × Int) := (List.range f.l).map f.k
theorem hls_len (f : Hf) : (hls f).length = f.l := by simp [hls]
theorem par_lt (p : Int) : par p < 2 := by have := par_le p; omega
theorem hls_more (f : Hf) (q : Option Addr) (c : Nat) (a b : Int) : hls (more f q c a b) = hls f ++ [(a, b)] := by
  unfold hls more
  simp only [List.range_succ, List.map_append, List.map_cons, List.map_nil, if_pos]
  congr 1
  refine List.map_congr_left fun i hi => ?_
  rw [if_neg (by have := List.mem_range.1 hi; omega)]
theorem hls_emptied (f : Hf) : hls (emptied f) = [] := rfl
theorem gHn_in (H : Nat → Nat → Nat → Hf) (x e : Nat) (jf : Nat → Nat) (i : Nat) : ∀ m, (∃ t, t < m ∧ jf t = i) → (gHn H x e jf m i x e).l = 0
  | 0, ⟨t, h, _⟩ => absurd h (Nat.not_lt_zero _)
  | m + 1, h => by
    unfold gHn
    by_cases e1 : i = jf m ∧ x = x ∧ e = e
    · obtain ⟨rfl, _, _⟩ := e1
      rw [setHf_at]
      rfl
    · rw [setHf_ne _ _ _ _ _ e1]
      obtain ⟨t, h1, h2⟩ := h
      exact gHn_in H x e jf i m ⟨t, by
        by_cases e2 : t = m
        · subst e2; exact absurd ⟨h2.symm, rfl, rfl⟩ e1
        · omega, h2⟩
theorem gHn_out (H : Nat → Nat → Nat → Hf) (x e : Nat) (jf : Nat → Nat) (i j k : Nat) : ∀ m, ¬ (j = x ∧ k = e ∧ ∃ t, t < m ∧ jf t = i) → gHn H x e jf m i j k = H i j k
  | 0, _ => rfl
  | m + 1, h => by
    unfold gHn
    rw [setHf_ne _ _ _ _ _ (fun h1 => h ⟨h1.2.1, h1.2.2, m, by omega, h1.1.symm⟩)]
    exact gHn_out H x e jf i j k m fun ⟨h1, h2, t, h3, h4⟩ => h ⟨h1, h2, t, by omega, h4⟩
theorem due_has {ph : Nat → Int} {n x i : Nat} : (∃ t, t < dueN ph n x ∧ dueJ ph n x t = i) ↔ i < n ∧ ph i = ph x := by
  rw [← dueI_mem]
  constructor
  · rintro ⟨t, h1, h2⟩
    have := dueJ_at h1
    rw [h2] at this
    exact List.mem_iff_getElem?.2 ⟨t, this⟩
  · intro h
    obtain ⟨t, h1⟩ := List.mem_iff_getElem?.1 h
    have h2 : t < dueN ph n x := by
      unfold dueN
      rcases Nat.lt_or_ge t (dueI ph x n).length with h3 | h3
      · exact h3
      · rw [List.getElem?_eq_none h3] at h1; cases h1
    have := dueJ_at h2
    rw [h1] at this
    injection this with this
    exact ⟨t, h2, this.symm⟩
theorem gK_list (H : Nat → Nat → Nat → Hf) (x e : Nat) (jf : Nat → Nat) : ∀ m, (List.range (sm (gln H x e jf) m)).map (gKn H x e jf m) = ((List.range m).map jf).flatMap fun i => hls (H i x e)
  | 0 => rfl
  | m + 1 => by
    have ih := gK_list H x e jf m
    show (List.range (sm (gln H x e jf) m + gln H x e jf m)).map (catF (gKn H x e jf m) (sm (gln H x e jf) m) (H (jf m) x e).k) = _
    rw [List.range_add, List.map_append, List.range_succ, List.map_append, List.flatMap_append, ← ih]
    congr 1
    · refine List.map_congr_left fun i hi => ?_
      unfold catF
      rw [if_pos (List.mem_range.1 hi)]
    · simp only [List.map_cons, List.map_nil, List.flatMap_cons, List.flatMap_nil, List.append_nil, List.map_map]
      unfold hls gln
      refine List.map_congr_left fun i hi => ?_
      show catF _ _ _ (_ + i) = _
      unfold catF
      rw [if_neg (by omega)]
      congr 1
      omega
theorem due_list (ph : Nat → Int) (n x : Nat) : (List.range (dueN ph n x)).map (dueJ ph n x) = dueI ph x n := by
  apply List.ext_getElem?
  intro i
  by_cases h : i < dueN ph n x
  · rw [List.getElem?_map, List.getElem?_range h, dueJ_at h]
    rfl
  · rw [List.getElem?_eq_none (by simp; omega), List.getElem?_eq_none (by unfold dueN at h; omega)]
/-- a comparison of two things that are one -/
theorem neq_th_same (a b : Int) (w : World) : (binOp .neq 31 (.agg #[.int .i64 a, .int .i64 b]) (.agg #[.int .i64 a, .int .i64 b])).run Try.prog w = .ok (.bool false) w := by
  go_simp
/-- things that lie somewhere, from a block's beginning on -/
def TAt (W : World) (v : Value) (m : Nat) (k : Nat → Int × Int) : Prop := ∃ q c, v = .slice q m c ∧ (m = 0 ∨ ∃ g, q = some ⟨g, 0, none⟩ ∧ ∀ j, j < m → W.cell? ⟨g, j * 2, none⟩ = some (.int .i64 (k j).1) ∧ W.cell? ⟨g, j * 2 + 1, none⟩ = some (.int .i64 (k j).2))
theorem Own.tat {W : World} {base m : Nat} {v : Value} {k : Nat → Int × Int} (h : Own W base 31 2 v m (thF k)) : TAt W v m k := by
  rcases h.form with ⟨rfl, rfl⟩ | ⟨g, c, rfl, _⟩
  · exact ⟨none, 0, rfl, .inl rfl⟩
  · refine ⟨_, _, rfl, .inr ⟨g, rfl, fun j hj => ?_⟩⟩
    have a := h.cell (j := j * 2) (by omega)
    have b := h.cell (j := j * 2 + 1) (by omega)
    unfold thF at a b
    rw [if_pos (by omega), show j * 2 / 2 = j by omega] at a
    rw [if_neg (by omega), show (j * 2 + 1) / 2 = j by omega] at b
    exact ⟨a, b⟩
set_option maxRecDepth 100000 in
set_option maxHeartbeats 4000000 in
attribute [-go_sem] run_eql_struct in
theorem sameT_yes (m : Nat) (k k2 : Nat → Int × Int) (v u : Value) (W : World) (h : TAt W v m k) (h2 : TAt W u m k2) (he : ∀ i, i < m → k i = k2 i) (hm : m ≤ 1000000) : Calls Try.prog 41 #[v, u] W fun e W' => e = .returned (.bool true) ∧ Below W.heap.size W W' := by
  obtain ⟨q, c, rfl, hq⟩ := h
  obtain ⟨q2, c2, rfl, hq2⟩ := h2
  have nq : ((m : Int) != (m : Int)) = false := by simp
  have HQ := mhid (And.intro hq (And.intro hq2 he))
  clear hq hq2 he
  go_enter Try.func41, Try.ntmps41
  go_wp2_with fail
  go_loopw [5] (fun y wr => ∃ j : Nat, y = .int .i64 (j : Int) ∧ j ≤ m ∧ Below W.heap.size W wr ∧ (∀ a, wr.cell? a = W.cell? a)) (fun y _ => m - (intOf y).toNat)
  case atStart => exact ⟨0, rfl, Nat.zero_le _, Below.refl _ _, fun _ => rfl⟩
  case round =>
    obtain ⟨j, rfl, hj, hbr, hce⟩ := hrel
    have HB := mhid (And.intro hbr hce)
    by_cases hlt : j < m
    · have dl : decide ((j : Int) < (m : Int)) = true := by simp; omega
      have dln : decide (j < m) = true := by simp; omega
      have hme := meas hlt
      have ek : IntKind.i64.wrap ((j : Int) + 1) = (j : Int) + 1 := by rw [IntKind.wrap_i64]; omega
      have k0 : (0 : Int) ≤ (j : Int) := by omega
      have k1 : (j : Int) < (m : Int) := by omega
      rcases HQ.out.1 with h0 | ⟨g, rfl, hc1⟩
      · omega
      rcases HQ.out.2.1 with h0 | ⟨g2, rfl, hc2⟩
      · omega
      obtain ⟨a0, a1⟩ := hc1 j hlt
      obtain ⟨b0, b1⟩ := hc2 j hlt
      rw [← HQ.out.2.2 j hlt] at b0 b1
      rw [← hce] at a0 a1 b0 b1
      obtain ⟨⟨x, y⟩, hxy⟩ : ∃ p, k j = p := ⟨_, rfl⟩
      rw [hxy] at a0 a1 b0 b1
      simp only at a0 a1 b0 b1
      have eqn := fun (W : World) => neq_th_same x y W
      have HLT := mhid hlt
      clear hbr hce hlt hj hc1 hc2 hxy
      go_upto_region 6 with fail
      go_quiet (fail)
      go_wp2_with fail
      exact ⟨⟨j + 1, rfl, HLT.out, HB.out.1.trans (below_drewNq _ _ _), fun a => HB.out.2 a⟩, hme⟩
    · have dl : decide ((j : Int) < (m : Int)) = false := by simp; omega
      have dln : decide (j < m) = false := by simp; omega
      obtain rfl : m = j := by omega
      clear hj hlt hbr hce
      go_wp2_with fail
      go_ret
      exact ⟨rfl, HB.out.1⟩
/-- a block that no post writes -/
def Oth (t : TypeId) : Bool := (t != 81) && (t != 78) && (t != 31)
def Fat (W : World) : Nat → Option Obj := fun k => match W.heap[k]? with
  | some (.cells cs t fz) => if Oth t = true then some (.cells cs t fz) else none
  | _ => none
abbrev Fn : Nat → Option Obj := fun _ => none
def KT (W W' : World) : Prop := ∀ (k : Nat) (cs : Array Value) (t : TypeId) (fz : Nat × Nat), W.heap[k]? = some (Obj.cells cs t fz) → Oth t = true → W'.heap[k]? = some (Obj.cells cs t fz)
theorem KT.refl (W : World) : KT W W := fun _ _ _ _ h _ => h
theorem KT.trans {W W' W'' : World} (h : KT W W') (h' : KT W' W'') : KT W W'' := fun k cs t fz h1 h2 => h' k cs t fz (h k cs t fz h1 h2) h2
theorem KT.below {W W' : World} (h : Below W.heap.size W W') : KT W W' := fun k cs t fz h1 _ => (h.block k (lt_of_block h1)).trans h1
theorem Own.kt {W W' : World} {B s m : Nat} {t : TypeId} {v : Value} {F : Nat → Value} (o : Own W B t s v m F) (h : KT W W') (ht : Oth t = true) : Own W' B t s v m F := o.far fun k hk => by
  rcases o.form with ⟨rfl, _⟩ | ⟨g, c, rfl, _⟩
  · simp [Value.ownBlock] at hk
  · simp [Value.ownBlock] at hk
    subst hk
    obtain ⟨cu, h1, _⟩ := o.block
    rw [h1]
    exact h _ _ _ _ h1 ht
theorem MP.fat {W : World} {base hb wb bb n : Nat} {room : Int} {cmp : Value} {R : Nat → Nat} {ph fl : Nat → Int} {H : Nat → Nat → Nat → Hf} (h : MP Fn W base hb wb bb n room cmp R ph fl H) : MP (Fat W) W base hb wb bb n room cmp R ph fl H := by
  refine ⟨h.p, h.w, h.b, h.r, h.ap, h.h, h.hd, h.hbs, h.s, fun k ob hk => ?_⟩
  unfold Fat at hk
  cases hw : W.heap[k]? with
  | none => rw [hw] at hk; cases hk
  | some o =>
    rw [hw] at hk
    cases o with
    | cells cs t fz =>
      simp only at hk
      by_cases ho : Oth t = true
      · rw [if_pos ho] at hk
        unfold Oth at ho
        simp only [Bool.and_eq_true, bne_iff_ne, ne_eq] at ho
        have key : ∀ {tt : TypeId} {s m : Nat} {v : Value} {F : Nat → Value}, Own W base tt s v m F → tt ≠ t → v.ownBlock ≠ some k := fun o1 hne e => o1.apart hw hne k e rfl
        refine ⟨hk, fun e2 => ?_, fun i hi e2 => ?_, fun i j h9 hi hj hh e2 => ?_⟩
        · subst e2; exact key h.w (Ne.symm ho.1.1) rfl
        · subst e2; exact key (h.r i hi) (Ne.symm ho.1.2) rfl
        · exact key (h.h i j h9 hi hj hh) (Ne.symm ho.2) e2
      · rw [if_neg ho] at hk; cases hk
    | _ => simp only at hk; cases hk
theorem MP.fatK {W W' : World} {base hb wb bb n : Nat} {room : Int} {cmp : Value} {R : Nat → Nat} {ph fl : Nat → Int} {H : Nat → Nat → Nat → Hf} (h : MP (Fat W) W' base hb wb bb n room cmp R ph fl H) : MP Fn W' base hb wb bb n room cmp R ph fl H ∧ KT W W' := by
  refine ⟨⟨h.p, h.w, h.b, h.r, h.ap, h.h, h.hd, h.hbs, h.s, fun k ob hk => by cases hk⟩, fun k cs t fz h1 h2 => ?_⟩
  exact (h.fr k _ (by unfold Fat; rw [h1]; simp only; rw [if_pos h2])).1
end Go.Proofs.Ytkfjcbnhohipgaa
