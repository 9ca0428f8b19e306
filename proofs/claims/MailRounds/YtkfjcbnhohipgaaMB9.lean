import Derived.Test.YtkfjcbnhohipgaaMB8
import Derived.BigQuiet
import Derived.Deep.RegionLaw
import Derived.Deep.RegionHeld3
import Derived.Deep.Cut
import Derived.Deep.DeepCutAuto
import Derived.Deep.CutBlock
import Derived.Deep.CutRange
import Derived.Deep.AppendLies
import Derived.Handy
import Derived.Lib.RabinKarpLaws
import Derived.Lib.JoinLaws
namespace Go.Proofs.Ytkfjcbnhohipgaa
open Go.ChangeShapes Go.WideShapes Go.ChangeAt Go.RowKit
set_option linter.unusedVariables false
set_option linter.unusedSimpArgs false


def catF (F : Nat → Int × Int) (k : Nat) (G : Nat → Int × Int) : Nat → Int × Int := fun i => if i < k then F i else G (i - k)
theorem thF_one (F : Nat → Int × Int) (j : Nat) : (thF F j).oneCell' = true := by unfold thF; split <;> rfl
theorem src_half {base : Nat} {w : World} (f : Hf) (hf : Own w base 31 2 f.v f.l (thF f.k)) : Src Try.prog 2 76 (.slice f.q f.l f.c) f.l (cellsF (thF f.k) (f.l * 2)) w := by
  have hfo := hf
  unfold Hf.v at hf
  rcases hf.form with ⟨h1, h2⟩ | ⟨g, c, h1, _⟩
  · injection h1 with h1 _ h3
    rw [h1, h2]
    exact Src.ofNil w Try.underlying76 f.c
  · injection h1 with h1 _ h3
    rw [h1] at hf ⊢
    refine Src.ofSlice w Try.underlying76 ⟨g, 0, none⟩ f.l f.c _ (cellsF_len _ _) (fun j u hj => ?_) (fun u hu => ?_)
    · have hlt : j < f.l * 2 := by
        rcases Nat.lt_or_ge j (f.l * 2) with h | h
        · exact h
        · rw [List.getElem?_eq_none (by rw [cellsF_len]; exact h)] at hj; cases hj
      rw [cellsF_at (thF f.k) hlt] at hj
      injection hj with hj
      rw [addr_add0, Nat.zero_add, hf.cell hlt, hj]
    · obtain ⟨j, hj⟩ := List.mem_iff_getElem?.1 hu
      have hlt : j < f.l * 2 := by
        rcases Nat.lt_or_ge j (f.l * 2) with h | h
        · exact h
        · rw [List.getElem?_eq_none (by rw [cellsF_len]; exact h)] at hj; cases hj
      rw [cellsF_at (thF f.k) hlt] at hj
      injection hj with hj
      rw [← hj]
      exact thF_one _ _
theorem own_cat {w : World} {B g k S l : Nat} {F K : Nat → Int × Int} (h : Own w B 31 2 (.slice (some ⟨g, 0, none⟩) k S) k (thF F)) (hroom : k + l ≤ S) : Own (w.setCells g (k * 2) (cellsF (thF K) (l * 2))) B 31 2 (.slice (some ⟨g, 0, none⟩) (k + l) S) (k + l) (thF (catF F k K)) := by
  obtain ⟨cur, h1, h2, h3, h4, h5, h6⟩ := h.block
  obtain ⟨cur', k1, k2, k3⟩ := setCells_block g (cellsF (thF K) (l * 2)) (k * 2) w cur h1
  refine Own.mk' k1 (k2.trans h2) hroom h4 h5 fun j hj => ?_
  rw [k3 j (by rw [h2]; omega), cellsF_len]
  by_cases h7 : j < k * 2
  · rw [if_neg (by omega), h6 j h7]
    unfold thF catF
    simp only [if_pos (show j / 2 < k by omega)]
  · rw [if_pos (by omega), cellsF_at (thF K) (by omega)]
    unfold thF catF
    simp only [if_neg (show ¬ j / 2 < k by omega), show (j - k * 2) / 2 = j / 2 - k by omega, show (j - k * 2) % 2 = j % 2 by omega]
theorem app_th {ops : Array Oper} {rest : List Oper} {o : Oper} {a : Act} {w : World} {Q : Exit → Act → World → Prop} (hgd : o.guard = none) (s x : Operand)
    (ho : o.op = .call { callee := .builtin .append, args := #[s, x], argTypes := #[37, 76] }) (B g k S : Nat) (F : Nat → Int × Int) (hown : Own w B 31 2 (.slice (some ⟨g, 0, none⟩) k S) k (thF F)) (hs : a.eval s = .slice (some ⟨g, 0, none⟩) k S)
    (base : Nat) (f : Hf) (hf : Own w base 31 2 f.v f.l (thF f.k)) (hx : a.eval x = .slice f.q f.l f.c) (hroom : k + f.l ≤ S)
    (h : ∀ w', Own w' B 31 2 (.slice (some ⟨g, 0, none⟩) (k + f.l) S) (k + f.l) (thF (catF F k f.k)) → w.grownBy w' (some g) → w'.heap.size = w.heap.size → wpList Try.prog ops Q rest (a.put o.dst (.slice (some ⟨g, 0, none⟩) (k + f.l) S)) w') : wpList Try.prog ops Q (o :: rest) a w := by
  obtain ⟨iT, hT1, hT2, hT3, hT4⟩ := binfo infoTH
  obtain ⟨cur, h1, h2, h3, h4, h5, h6⟩ := hown.block
  refine wpList_append_room_src w hgd s x 37 76 ho 31 iT Try.underlying37 hT1 g 0 k S hs _ hx f.l (cellsF (thF f.k) (f.l * 2)) (by rw [hT3]; exact src_half f hf) hroom (fun j hj => ?_) (fun j _ => frz h1 _) ?_
  · rw [cellsF_len] at hj
    rw [hT3]
    unfold World.cell?
    rw [h1]
    have : k * 2 + j < cur.size := by rw [h2]; omega
    simp [this]
  · rw [hT3, Nat.zero_add]
    exact h _ (own_cat hown hroom) (grown_sets w g _ _) (setCells_size g _ _ w)
theorem sm_mono (f : Nat → Nat) {a b : Nat} (h : a ≤ b) : sm f a ≤ sm f b := by
  induction b with
  | zero => obtain rfl : a = 0 := by omega
            exact Nat.le_refl _
  | succ b ih =>
    by_cases e : a = b + 1
    · subst e; exact Nat.le_refl _
    · have := ih (by omega)
      show sm f a ≤ sm f b + f b
      omega
/-- a row of things that is none of the post's is written -/
theorem MP.aside {W : World} {Fo : Nat → Option Obj} {base hb wb bb n : Nat} {room : Int} {cmp : Value} {R : Nat → Nat} {ph fl : Nat → Int} {H : Nat → Nat → Nat → Hf} {W' : World} {g : Nat} {cur : Array Value} {fz : Nat × Nat} (h : MP Fo W base hb wb bb n room cmp R ph fl H) (hg : W.grownBy W' (some g)) (hgt : W.heap[g]? = some (.cells cur 31 fz)) (hap : ∀ i j k, i < n → j < n → k < 2 → (H i j k).v.ownBlock ≠ some g) (hFg : ∀ o, Fo g ≠ some o) : MP Fo W' base hb wb bb n room cmp R ph fl H :=
  ⟨(hg.block _ (lt_of_block h.p) fun e2 => typ_ne h.p hgt (by decide) (by injection e2)).trans h.p, h.w.keptBy hg fun k hk e2 => h.w.apart hgt (by decide) k hk (by injection e2 with e2; exact e2.symm), h.b.keptBy hg fun k hk e2 => h.b.apart hgt (by decide) k hk (by injection e2 with e2; exact e2.symm), fun i hi => (h.r i hi).keptBy hg fun k hk e2 => (h.r i hi).apart hgt (by decide) k hk (by injection e2 with e2; exact e2.symm), h.ap, fun i j k hi hj hk => (h.h i j k hi hj hk).keptBy hg fun k' hk' e2 => hap i j k hi hj hk (by rw [hk', e2]), h.hd, h.hbs, h.s, fun k o hk => ⟨(hg.block _ (lt_of_block (h.fr k o hk).1) fun e2 => hFg o (by injection e2 with e2; rw [← e2]; exact hk)).trans (h.fr k o hk).1, (h.fr k o hk).2⟩⟩
/-- the halves of the senders jf 0, jf 1 .. to x are emptied, one behind the other -/
def gHn (H : Nat → Nat → Nat → Hf) (x e : Nat) (jf : Nat → Nat) : Nat → Nat → Nat → Nat → Hf
  | 0 => H
  | j + 1 => setHf (gHn H x e jf j) (jf j) x e (emptied (gHn H x e jf j (jf j) x e))
def gln (H : Nat → Nat → Nat → Hf) (x e : Nat) (jf : Nat → Nat) (j : Nat) : Nat := (H (jf j) x e).l
def gKn (H : Nat → Nat → Nat → Hf) (x e : Nat) (jf : Nat → Nat) : Nat → Nat → Int × Int
  | 0 => fun _ => (0, 0)
  | j + 1 => catF (gKn H x e jf j) (sm (gln H x e jf) j) (H (jf j) x e).k
theorem gHn_far (H : Nat → Nat → Nat → Hf) (x e : Nat) (jf : Nat → Nat) (i : Nat) : ∀ j, (∀ t, t < j → jf t ≠ i) → gHn H x e jf j i x e = H i x e
  | 0, _ => rfl
  | j + 1, h => by
    unfold gHn
    rw [setHf_ne _ _ _ _ _ (fun h1 => h j (by omega) h1.1.symm)]
    exact gHn_far H x e jf i j fun t ht => h t (by omega)
theorem gHn_block (H : Nat → Nat → Nat → Hf) (x e : Nat) (jf : Nat → Nat) : ∀ j i y h, (gHn H x e jf j i y h).v.ownBlock = (H i y h).v.ownBlock
  | 0, _, _, _ => rfl
  | j + 1, i, y, h => by
    have ih := gHn_block H x e jf j
    unfold gHn
    by_cases h1 : i = jf j ∧ y = x ∧ h = e
    · obtain ⟨rfl, rfl, rfl⟩ := h1
      rw [setHf_at, ← ih]
      unfold emptied Hf.v
      cases (gHn H y h jf j (jf j) y h).q <;> rfl
    · rw [setHf_ne _ _ _ _ _ h1]
      exact ih i y h
set_option maxRecDepth 100000 in
set_option maxHeartbeats 4000000 in
theorem gather_any (x e m c : Nat) (jf : Nat → Nat) (q : Option Addr) {Fo : Nat → Option Obj} {base hb wb bb n : Nat} {room : Int} {cmp : Value} {R : Nat → Nat} {ph fl : Nat → Int} {H : Nat → Nat → Nat → Hf} (hx : x < n) (he : e < 2) (hm : m ≤ 64) (hjn : ∀ j, j < m → jf j < n) (hji : ∀ i j, i < m → j < m → jf i = jf j → i = j) (W : World) (h : MP Fo W base hb wb bb n room cmp R ph fl H) (hbase : base ≤ W.heap.size)
    (hq : m = 0 ∨ ∃ g cur, q = some ⟨g, 0, none⟩ ∧ W.heap[g]? = some (.cells cur 75 (0, 0)) ∧ ∀ j, j < m → cur[j]? = some (.pointer (some ⟨R (jf j), x * 2 + e, none⟩))) :
    Calls Try.prog 37 #[.slice q m c] W fun r W' => ∃ g, r = .returned (.slice (some ⟨g, 0, none⟩) (sm (gln H x e jf) m) (sm (gln H x e jf) m)) ∧ W.heap.size ≤ g ∧ Own W' W.heap.size 31 2 (.slice (some ⟨g, 0, none⟩) (sm (gln H x e jf) m) (sm (gln H x e jf) m)) (sm (gln H x e jf) m) (thF (gKn H x e jf m)) ∧ MP Fo W' base hb wb bb n room cmp R ph fl (gHn H x e jf m) ∧ Below base W W' := by
  obtain ⟨iT, hT1, hT2, hT3, hT4⟩ := binfo infoTH
  have hls : ∀ j, gln H x e jf j ≤ 1024 := fun j => h.s _ _ _
  have hsm := sm_le (gln H x e jf) 1024 hls m
  have HTO : Calls Try.prog 34 #[.slice q m c] W fun r W' => r = .returned (.int .i64 (sm (gln H x e jf) m : Nat)) ∧ W' = W := by
    refine total_any q m c (fun j => ⟨R (jf j), x * 2 + e, none⟩) (fun j => (H (jf j) x e).q) (gln H x e jf) (fun j => (H (jf j) x e).c) hm hls W ?_ (fun j hj => ⟨_, _, rfl, h.hv (hjn j hj) hx he⟩)
    rcases hq with h0 | ⟨g, cur, h1, h2, h3⟩
    · exact .inl h0
    · refine .inr ⟨g, h1, fun j hj => ?_⟩
      unfold World.cell?
      rw [h2]
      simpa using h3 j hj
  obtain ⟨S, hS⟩ : ∃ S, sm (gln H x e jf) m = S := ⟨_, rfl⟩
  rw [hS] at HTO hsm ⊢
  have hmk := run_make (P := Try.prog) W 37 31 iT _ Try.underlying37 hT1 hT2 .i64 .i64 0 (S : Int) (Int.le_refl _) (by omega) (by rw [hT4]; omega) (by omega)
  rw [hT3] at hmk
  simp only [Int.toNat_natCast, Int.toNat_zero] at hmk
  obtain ⟨w2, hw2⟩ : ∃ w2, W.alloc (.cells (madeCells (Value.agg #[.int .i64 0, .int .i64 0]).cells (S * 2)) 31) = w2 := ⟨_, rfl⟩
  have hb2 : Below W.heap.size W w2 := by rw [← hw2]; exact (Below.refl _ W).alloc (Nat.le_refl _) _
  have hn2 : w2.heap[W.heap.size]? = some (.cells (madeCells (Value.agg #[.int .i64 0, .int .i64 0]).cells (S * 2)) 31 (0, 0)) := by rw [← hw2]; exact World.alloc_heap_new W _
  have ho2 : Own w2 W.heap.size 31 2 (.slice (some ⟨W.heap.size, 0, none⟩) 0 S) 0 (thF (gKn H x e jf 0)) := Own.mk' hn2 (size_madeCells _ _) (Nat.zero_le _) (by unfold maxLen; omega) (Nat.le_refl _) fun j hj => by omega
  have HFG : Hid (∀ o, Fo W.heap.size ≠ some o) := fun o ho => Nat.lt_irrefl _ (lt_of_block (h.fr _ o ho).1)
  have hM2 := h.later hb2
  have hap : ∀ i y k, i < n → y < n → k < 2 → ∀ g, (H i y k).v.ownBlock = some g → g ≠ W.heap.size := fun i y k hi hy hk g hg => by have := ((h.h i y k hi hy hk).lt g hg).2; omega
  rw [hw2] at hmk
  have H2 := mhid (And.intro hM2 (And.intro ho2 (And.intro hb2 hap)))
  have HQ := mhid hq
  have HJN := mhid hjn
  have HJI := mhid hji
  have HS := mhid hS
  have HLS := mhid hls
  have HBS := mhid hbase
  have HQ2 : Hid (m = 0 ∨ ∃ g cur, q = some ⟨g, 0, none⟩ ∧ g < W.heap.size ∧ w2.heap[g]? = some (.cells cur 75 (0, 0)) ∧ ∀ j, j < m → cur[j]? = some (.pointer (some ⟨R (jf j), x * 2 + e, none⟩))) := by
    rcases hq with h0 | ⟨g, cur, h1, h2, h3⟩
    · exact .inl h0
    · exact .inr ⟨g, cur, h1, lt_of_block h2, (hb2.block _ (lt_of_block h2)).trans h2, h3⟩
  clear h hM2 ho2 hb2 hn2 hap hw2 hq hjn hji hS hls hbase HQ
  go_enter Try.func37, Try.ntmps37
  go_wp2_with (go_at_call 34; (with_reducible refine HTO.mono ?_); rintro r w1 ⟨rfl, h9⟩; subst h9)
  go_loopw [3, 11] (fun a y wr => ∃ j : Nat, y = .int .i64 (j : Int) ∧ j ≤ m ∧ a = .slice (some ⟨w1.heap.size, 0, none⟩) (sm (gln H x e jf) j) S ∧ MP Fo wr base hb wb bb n room cmp R ph fl (gHn H x e jf j) ∧ Own wr w1.heap.size 31 2 (.slice (some ⟨w1.heap.size, 0, none⟩) (sm (gln H x e jf) j) S) (sm (gln H x e jf) j) (thF (gKn H x e jf j)) ∧ Below base w1 wr ∧ (∀ g cur, q = some ⟨g, 0, none⟩ → w2.heap[g]? = some (.cells cur 75 (0, 0)) → wr.heap[g]? = some (.cells cur 75 (0, 0)))) (fun _ y _ => m - (intOf y).toNat)
  case atStart => exact ⟨0, rfl, Nat.zero_le _, rfl, H2.out.1, H2.out.2.1, H2.out.2.2.1.mono HBS.out, fun _ _ _ h => h⟩
  case round =>
    obtain ⟨j, rfl, hj, rfl, hm1, ho1, hb1, hg1⟩ := hrel
    have HR := mhid (And.intro hm1 (And.intro ho1 (And.intro hb1 hg1)))
    by_cases hlt : j < m
    · have dl : decide ((j : Int) < (m : Int)) = true := by simp; omega
      have hme := meas hlt
      have ek : IntKind.i64.wrap ((j : Int) + 1) = (j : Int) + 1 := by rw [IntKind.wrap_i64]; omega
      have k0 : (0 : Int) ≤ (j : Int) := by omega
      have k1 : (j : Int) < (m : Int) := by omega
      rcases HQ2.out with h0 | ⟨g, cur, hq, hgl, hgc, hgp⟩
      · omega
      have hgr := hg1 g cur hq hgc
      have y0 : wr.cell? ⟨g, j, none⟩ = some (.pointer (some ⟨R (jf j), x * 2 + e, none⟩)) := by
        unfold World.cell?
        rw [hgr]
        simpa using hgp j hlt
      have hjj := HJN.out j hlt
      have hself : gHn H x e jf j (jf j) x e = H (jf j) x e := gHn_far H x e jf (jf j) j fun t ht e2 => by have := HJI.out t j (by omega) hlt e2; omega
      have y1 := hm1.hv hjj hx he
      rw [hself] at y1
      have hfo := hm1.h (jf j) x e hjj hx he
      rw [hself] at hfo
      have hnx : sm (gln H x e jf) (j + 1) = sm (gln H x e jf) j + (H (jf j) x e).l := rfl
      have hroom : sm (gln H x e jf) j + (H (jf j) x e).l ≤ S := by
        rw [← hnx, ← HS.out]
        exact sm_mono _ (by omega)
      have HROOM := mhid hroom
      have HFO := mhid hfo
      have HSELF := mhid hself
      have HLT := mhid hlt
      have HGR := mhid hgr
      have HHQ := mhid hq
      have HJJ := mhid hjj
      have HHGC := mhid hgc
      unfold Hf.v at y1
      clear hm1 ho1 hb1 hg1 hlt hj hgr hjj hself hfo hroom hgc hgp
      rw [HHQ.out]
      clear hq
      have HEM : Hid (∀ w5, Own w5 w1.heap.size 31 2 (.slice (some ⟨w1.heap.size, 0, none⟩) (sm (gln H x e jf) j + (H (jf j) x e).l) S) (sm (gln H x e jf) j + (H (jf j) x e).l) (thF (catF (gKn H x e jf j) (sm (gln H x e jf) j) (H (jf j) x e).k)) → wr.grownBy w5 (some w1.heap.size) → Calls Try.prog 39 #[.pointer (some ⟨R (jf j), x * 2 + e, none⟩)] w5 fun r w6 => (∃ z, r = .returned z) ∧ MP Fo w6 base hb wb bb n room cmp R ph fl (gHn H x e jf (j + 1)) ∧ Own w6 w1.heap.size 31 2 (.slice (some ⟨w1.heap.size, 0, none⟩) (sm (gln H x e jf) j + (H (jf j) x e).l) S) (sm (gln H x e jf) j + (H (jf j) x e).l) (thF (gKn H x e jf (j + 1))) ∧ Below base w1 w6 ∧ w6.heap[g]? = some (.cells cur 75 (0, 0))) := fun w5 o5 g5 => by
        obtain ⟨cu, z1, _⟩ := HR.out.2.1.block
        have hapj : ∀ i y k, i < n → y < n → k < 2 → (gHn H x e jf j i y k).v.ownBlock ≠ some w1.heap.size := fun i y k hi hy hk e2 => by
          rw [gHn_block] at e2
          exact H2.out.2.2.2 i y k hi hy hk _ e2 rfl
        have m5 := HR.out.1.aside g5 z1 hapj HFG.out
        have hgl5 : w5.heap[g]? = some (.cells cur 75 (0, 0)) := (g5.block g (lt_of_block HGR.out) (fun e2 => typ_ne HGR.out z1 (by decide) (by injection e2))).trans HGR.out
        have hb5 : Below base w1 w5 := HR.out.2.2.1.trans ((Below.refl base wr).grown g5 (Nat.le_trans HBS.out HR.out.2.2.1.size) fun k hk => by injection hk with hk; rw [← hk]; exact HBS.out)
        refine (empty_any (jf j) x e HJJ.out hx he w5 m5).mono fun r w6 ⟨q1, q2, q3, q4⟩ => ⟨⟨_, q1⟩, q2, ?_, hb5.trans q3, ?_⟩
        · refine Own.far o5 fun k hk => ?_
          simp [Value.ownBlock] at hk
          subst hk
          obtain ⟨c5, z5, _⟩ := o5.block
          obtain ⟨cr, hcr, _⟩ := (m5.r (jf j) HJJ.out).block
          exact q4.2 _ (typ_ne z5 hcr (by decide)) (hapj (jf j) x e HJJ.out hx he)
        · obtain ⟨cr, hcr, _⟩ := (m5.r (jf j) HJJ.out).block
          rw [q4.2 g (typ_ne hgl5 hcr (by decide)) (fun e2 => (m5.h (jf j) x e HJJ.out hx he).apart hgl5 (by decide) g e2 rfl)]
          exact hgl5
      go_upto_region 6 with (at_builtin; refine app_th rfl _ _ rfl w1.heap.size w1.heap.size (sm (gln H x e jf) j) S (gKn H x e jf j) HR.out.2.1 rfl base (H (jf j) x e) HFO.out rfl HROOM.out ?_; intro w5 o5 g5 s5)
      have HC := HEM.out w5 o5 g5
      clear o5 g5 s5 y0 y1
      go_wp2_with (go_at_call 39; (with_reducible refine HC.mono ?_); rintro r9 w6 ⟨⟨z9, rfl⟩, m6, o6, b6, g6⟩)
      exact ⟨⟨j + 1, rfl, HLT.out, rfl, m6, o6, b6, fun g' cur' h1 h2 => by
        try rw [HHQ.out] at h1
        injection h1 with h1
        injection h1 with h1
        subst h1
        rw [HHGC.out] at h2
        rw [← h2]
        exact g6⟩, hme⟩
    · have dl : decide ((j : Int) < (m : Int)) = false := by simp; omega
      obtain rfl : j = m := by omega
      clear hm1 ho1 hb1 hg1
      go_wp2_with fail
      go_ret
      have := HR.out
      rw [HS.out] at this ⊢
      exact ⟨w1.heap.size, rfl, Nat.le_refl _, this.2.1, this.1, this.2.2.1⟩
end Go.Proofs.Ytkfjcbnhohipgaa
