import Derived.Test.YtopggemomcoalaaGreatJTW15
import Derived.Laws.NewBlocks
import Derived.Laws.Cover3
import Derived.Test.YtopggemomcoalaaGreatJTW7
namespace Go.Proofs.YtopggemomcoalaaGreat
open Go.ChangeShapes Go.WideShapes Go.ChangeAt Go.RowKit
set_option linter.unusedVariables false
set_option linter.unusedSimpArgs false

theorem own_nil0 {W : World} {base : Nat} {t : TypeId} {s : Nat} {F : Nat → Value} : Own W base t s (.slice none 0 0) 0 F := ⟨by simp [cellsF], .inl ⟨rfl, rfl⟩⟩
/-- n elements of s cells, F, lie somewhere -/
def CIn (W : World) (p : Option Addr) (n s : Nat) (F : Nat → Value) : Prop := n = 0 ∨ ∃ b o, p = some ⟨b, o, none⟩ ∧ b < W.heap.size ∧ ∀ j, j < n * s → W.cell? ⟨b, o + j, none⟩ = some (F j)
theorem CIn.below {W W' : World} {p : Option Addr} {n s : Nat} {F : Nat → Value} (h : CIn W p n s F) (hb : Below W.heap.size W W') : CIn W' p n s F := by
  rcases h with h | ⟨b, o, h1, h2, h3⟩
  · exact .inl h
  · exact .inr ⟨b, o, h1, Nat.lt_of_lt_of_le h2 hb.size, fun j hj => (cell_below (a := ⟨b, o + j, none⟩) hb h2).trans (h3 j hj)⟩
theorem own_news (w : World) (t : TypeId) (s : Nat) (F : Nat → Value) : Own (w.alloc (.cells #[] t)) w.heap.size t s (.slice (some ⟨w.heap.size, 0, none⟩) 0 0) 0 F :=
  Own.mk' (World.alloc_heap_new w _) (by simp) (Nat.le_refl _) (Nat.zero_le _) (Nat.le_refl _) fun j hj => by omega
theorem cloneI_inf : (Tryz.prog.info? 36).map (fun i => (i.zero, i.size, i.bytes)) = some (some (.agg #[.int .i64 0, .int .i64 0, .int .i64 0]), 3, 24) := by kernel_rfl
theorem cloneI_yes (n c : Nat) (W : World) : (binOp .eql 22 (.slice none n c) (.slice none 0 0)).run Tryz.prog W = .ok (.bool true) W := by
  have := run_equal_slice_nil (P := Tryz.prog) W 22 36 none n c Tryz.underlying22
  simp [binOp, this]
theorem cloneI_no (ad : Addr) (n c : Nat) (W : World) : (binOp .eql 22 (.slice (some ad) n c) (.slice none 0 0)).run Tryz.prog W = .ok (.bool false) W := by
  have := run_equal_slice_nil (P := Tryz.prog) W 22 36 (some ad) n c Tryz.underlying22
  simp [binOp, this]
set_option maxRecDepth 100000 in
set_option maxHeartbeats 1000000 in
theorem cloneI_any (p : Option Addr) (n c : Nat) (F : Nat → Value) (w : World) (hn : n * 24 ≤ 140737488355328) (h : CIn w p n 3 F) (h1 : ∀ j, j < n * 3 → (F j).oneCell' = true) :
    Calls Tryz.prog 20 #[.slice p n c] w fun e w' => ∃ (q : Option Addr) (cc : Nat), e = .returned (.slice q n cc) ∧ Own w' w.heap.size 36 3 (.slice q n cc) n F ∧ Below w.heap.size w w' := by
  rcases p with _ | ad
  · have h0 : n = 0 := by
      rcases h with h | ⟨b, o, e, _⟩
      · exact h
      · cases e
    subst h0
    have hq := cloneI_yes 0 c
    go_enter Tryz.func20, Tryz.ntmps20
    go_wp2
    go_ret
    exact ⟨none, 0, rfl, own_nil0, Below.refl _ _⟩
  · have hq := cloneI_no ad n c
    obtain ⟨i3, hi3, ha3, hb3, hc3⟩ := info_parts cloneI_inf
    have hz3 : (.agg #[.int .i64 0, .int .i64 0, .int .i64 0] : Value).cells.size = 3 := rfl
    obtain ⟨w1, hw1⟩ : ∃ w1, w.alloc (.cells #[] 36) = w1 := ⟨_, rfl⟩
    have hO := own_news w 36 3 F
    have hb1 : Below w.heap.size w w1 := by rw [← hw1]; exact (Below.refl _ w).alloc (Nat.le_refl _) _
    rw [hw1] at hO
    have hc : ∀ j u, (cellsF F (n * 3))[j]? = some u → w1.cell? (ad.add j) = some u := fun j u hu => by
      have hj : j < n * 3 := by
        have := (List.getElem?_eq_some_iff.1 hu).1
        rwa [cellsF_len] at this
      rw [cellsF_at _ hj] at hu
      cases hu
      rcases h with e0 | ⟨b, o, e, hlt, hcc⟩
      · omega
      · cases e
        rw [addr_add]
        exact (cell_below hb1 hlt).trans (hcc j hj)
    have hone : ∀ u ∈ cellsF F (n * 3), u.oneCell' = true := fun u hu => by
      unfold cellsF at hu
      obtain ⟨j, hj, rfl⟩ := List.mem_map.1 hu
      exact h1 j (List.mem_range.1 hj)
    have HW : Hid (w.alloc (.cells #[] 36) = w1) := hw1
    have HO : Hid (w1.ownsRow w.heap.size 36 3 (.slice (some ⟨w.heap.size, 0, none⟩) 0 0) 0 []) := by
      have h9 : w1.ownsRow w.heap.size 36 3 (.slice (some ⟨w.heap.size, 0, none⟩) 0 0) 0 (cellsF F (0 * 3)) := hO
      rw [Nat.zero_mul] at h9
      exact h9
    have HC : Hid ((∀ j u, (cellsF F (n * 3))[j]? = some u → w1.cell? (ad.add j) = some u) ∧ ∀ u ∈ cellsF F (n * 3), u.oneCell' = true) := ⟨hc, hone⟩
    clear hO hw1 hc hone h h1
    have hsz := hb1.size
    go_enter Tryz.func20, Tryz.ntmps20
    go_wp2_with (at_builtin; rw [HW.out]; refine wpList_append_own _ rfl (.tmp 5) (.tmp 6) 22 rfl w.heap.size 36 i3 (.agg #[.int .i64 0, .int .i64 0, .int .i64 0]) 3 24 Tryz.underlying22 hi3 ha3 hb3 hc3 hz3 (by decide) (.slice (some ⟨w.heap.size, 0, none⟩) 0 0) 0 [] rfl HO.out ad n c (cellsF F (n * 3)) rfl (cellsF_len _ _) HC.out.1 HC.out.2 (by unfold maxLen; omega) (by omega) hsz ?_; intro v' w2 hown hgrow _)
    go_ret
    have hF : Own w2 w.heap.size 36 3 v' n F := by
      unfold Own
      simpa using hown
    have hB : Below w.heap.size w w2 := hb1.grown hgrow hsz (fun k hk => by simp [Value.ownBlock] at hk; omega)
    obtain ⟨q, cc, rfl⟩ : ∃ q cc, v' = .slice q n cc := by
      rcases hF.form with ⟨e1, e2⟩ | ⟨g, cc, e1, _, _⟩
      · exact ⟨none, 0, by rw [e1, e2]⟩
      · exact ⟨_, _, e1⟩
    exact ⟨q, cc, rfl, hF, hB⟩
theorem cloneN_inf : (Tryz.prog.info? 3).map (fun i => (i.zero, i.size, i.bytes)) = some (some (.int .i64 0), 1, 8) := by kernel_rfl
theorem cloneN_yes (n c : Nat) (W : World) : (binOp .eql 23 (.slice none n c) (.slice none 0 0)).run Tryz.prog W = .ok (.bool true) W := by
  have := run_equal_slice_nil (P := Tryz.prog) W 23 3 none n c Tryz.underlying23
  simp [binOp, this]
theorem cloneN_no (ad : Addr) (n c : Nat) (W : World) : (binOp .eql 23 (.slice (some ad) n c) (.slice none 0 0)).run Tryz.prog W = .ok (.bool false) W := by
  have := run_equal_slice_nil (P := Tryz.prog) W 23 3 (some ad) n c Tryz.underlying23
  simp [binOp, this]
set_option maxRecDepth 100000 in
set_option maxHeartbeats 1000000 in
theorem cloneN_any (p : Option Addr) (n c : Nat) (F : Nat → Value) (w : World) (hn : n * 8 ≤ 140737488355328) (h : CIn w p n 1 F) (h1 : ∀ j, j < n * 1 → (F j).oneCell' = true) :
    Calls Tryz.prog 21 #[.slice p n c] w fun e w' => ∃ (q : Option Addr) (cc : Nat), e = .returned (.slice q n cc) ∧ Own w' w.heap.size 3 1 (.slice q n cc) n F ∧ Below w.heap.size w w' := by
  rcases p with _ | ad
  · have h0 : n = 0 := by
      rcases h with h | ⟨b, o, e, _⟩
      · exact h
      · cases e
    subst h0
    have hq := cloneN_yes 0 c
    go_enter Tryz.func21, Tryz.ntmps21
    go_wp2
    go_ret
    exact ⟨none, 0, rfl, own_nil0, Below.refl _ _⟩
  · have hq := cloneN_no ad n c
    obtain ⟨i3, hi3, ha3, hb3, hc3⟩ := info_parts cloneN_inf
    have hz3 : (.int .i64 0 : Value).cells.size = 1 := rfl
    obtain ⟨w1, hw1⟩ : ∃ w1, w.alloc (.cells #[] 3) = w1 := ⟨_, rfl⟩
    have hO := own_news w 3 1 F
    have hb1 : Below w.heap.size w w1 := by rw [← hw1]; exact (Below.refl _ w).alloc (Nat.le_refl _) _
    rw [hw1] at hO
    have hc : ∀ j u, (cellsF F (n * 1))[j]? = some u → w1.cell? (ad.add j) = some u := fun j u hu => by
      have hj : j < n * 1 := by
        have := (List.getElem?_eq_some_iff.1 hu).1
        rwa [cellsF_len] at this
      rw [cellsF_at _ hj] at hu
      cases hu
      rcases h with e0 | ⟨b, o, e, hlt, hcc⟩
      · omega
      · cases e
        rw [addr_add]
        exact (cell_below hb1 hlt).trans (hcc j hj)
    have hone : ∀ u ∈ cellsF F (n * 1), u.oneCell' = true := fun u hu => by
      unfold cellsF at hu
      obtain ⟨j, hj, rfl⟩ := List.mem_map.1 hu
      exact h1 j (List.mem_range.1 hj)
    have HW : Hid (w.alloc (.cells #[] 3) = w1) := hw1
    have HO : Hid (w1.ownsRow w.heap.size 3 1 (.slice (some ⟨w.heap.size, 0, none⟩) 0 0) 0 []) := by
      have h9 : w1.ownsRow w.heap.size 3 1 (.slice (some ⟨w.heap.size, 0, none⟩) 0 0) 0 (cellsF F (0 * 1)) := hO
      rw [Nat.zero_mul] at h9
      exact h9
    have HC : Hid ((∀ j u, (cellsF F (n * 1))[j]? = some u → w1.cell? (ad.add j) = some u) ∧ ∀ u ∈ cellsF F (n * 1), u.oneCell' = true) := ⟨hc, hone⟩
    clear hO hw1 hc hone h h1
    have hsz := hb1.size
    go_enter Tryz.func21, Tryz.ntmps21
    go_wp2_with (at_builtin; rw [HW.out]; refine wpList_append_own _ rfl (.tmp 5) (.tmp 6) 23 rfl w.heap.size 3 i3 (.int .i64 0) 1 8 Tryz.underlying23 hi3 ha3 hb3 hc3 hz3 (by decide) (.slice (some ⟨w.heap.size, 0, none⟩) 0 0) 0 [] rfl HO.out ad n c (cellsF F (n * 1)) rfl (cellsF_len _ _) HC.out.1 HC.out.2 (by unfold maxLen; omega) (by omega) hsz ?_; intro v' w2 hown hgrow _)
    go_ret
    have hF : Own w2 w.heap.size 3 1 v' n F := by
      unfold Own
      simpa using hown
    have hB : Below w.heap.size w w2 := hb1.grown hgrow hsz (fun k hk => by simp [Value.ownBlock] at hk; omega)
    obtain ⟨q, cc, rfl⟩ : ∃ q cc, v' = .slice q n cc := by
      rcases hF.form with ⟨e1, e2⟩ | ⟨g, cc, e1, _, _⟩
      · exact ⟨none, 0, by rw [e1, e2]⟩
      · exact ⟨_, _, e1⟩
    exact ⟨q, cc, rfl, hF, hB⟩
set_option maxRecDepth 100000 in
set_option maxHeartbeats 8000000 in
theorem equalI_any (p q : Option Addr) (n m c d : Nat) (op a b op' a' b' : Nat → Int) (hn : n ≤ 100000) (W : World) (h : IAt W p n op a b) (h' : IAt W q m op' a' b') : Calls Tryz.prog 44 #[.slice p n c, .slice q m d] W fun e W' => ∃ r, e = .returned (.bool r) ∧ (r = true ↔ n = m ∧ ∀ j, j < n → op j = op' j ∧ a j = a' j ∧ b j = b' j) ∧ Below W.heap.size W W' := by
  have H0 := tmh (And.intro h h')
  clear h h'
  by_cases hnm : n = m
  · subst hnm
    have d0 : ((n : Int) != (n : Int)) = false := by simp
    go_enter Tryz.func44, Tryz.ntmps44
    go_wp2_with fail
    go_loopw [13] (fun x wr => ∃ k : Nat, x = .int .i64 (k : Int) ∧ k ≤ n ∧ (∀ j, j < k → op j = op' j ∧ a j = a' j ∧ b j = b' j) ∧ Below W.heap.size W wr) (fun x _ => n - (intOf x).toNat)
    case atStart => exact ⟨0, rfl, Nat.zero_le _, fun j hj => by omega, Below.refl _ _⟩
    case round =>
      obtain ⟨k, rfl, hk, he, hbr⟩ := hrel
      by_cases hlt : k < n
      · have d1 : decide ((k : Int) < (n : Int)) = true := by simp; omega
        have d2 : decide (k < n) = true := by simp; omega
        have i0 : (0 : Int) ≤ (k : Int) := by omega
        have i1 : (k : Int) < (n : Int) := by omega
        have ek : IntKind.i64.wrap ((k : Int) + 1) = ((k + 1 : Nat) : Int) := by rw [IntKind.wrap_i64]; omega
        have hm := meas0 hlt
        have h1 := H0.out.1.below hbr
        have h2 := H0.out.2.below hbr
        obtain ⟨b1, o1, hp⟩ := iat_pt h1 (by omega)
        subst hp
        obtain ⟨b2, o2, hq⟩ := iat_pt h2 (by omega)
        subst hq
        obtain ⟨x0, x1, x2⟩ := iat_at h1 hlt
        obtain ⟨z0, z1, z2⟩ := iat_at h2 hlt
        clear h1 h2
        have HB := tmh (And.intro hbr.drew he)
        clear hbr he hk
        by_cases hs : op k = op' k ∧ a k = a' k ∧ b k = b' k
        · have HS := tmh hs
          rw [← hs.1] at z0
          rw [← hs.2.1] at z1
          rw [← hs.2.2] at z2
          clear hs
          go_upto_region 6 with fail
          go_region
          all_goals (go_wp2_with fail)
          all_goals exact ⟨⟨k + 1, rfl, hlt, fun j hj => by
            rcases (by omega : j < k ∨ j = k) with h9 | rfl
            · exact HB.out.2 j h9
            · exact HS.out, HB.out.1⟩, hm⟩
        · have HS := tmh hs
          by_cases g1 : op k = op' k
          · rw [← g1] at z0
            by_cases g2 : a k = a' k
            · rw [← g2] at z1
              have g3 : ¬ b k = b' k := fun g3 => hs ⟨g1, g2, g3⟩
              clear hs g1 g2
              go_upto_region 6 with fail
              go_region
              all_goals (go_wp2_with fail)
              all_goals go_ret
              all_goals exact ⟨_, rfl, ⟨fun h9 => (by cases h9), fun h9 => absurd (h9.2 k hlt) HS.out⟩, HB.out.1⟩
            · clear hs g1
              go_upto_region 6 with fail
              go_region
              all_goals (go_wp2_with fail)
              all_goals go_ret
              all_goals exact ⟨_, rfl, ⟨fun h9 => (by cases h9), fun h9 => absurd (h9.2 k hlt) HS.out⟩, HB.out.1⟩
          · clear hs
            go_upto_region 6 with fail
            go_region
            all_goals (go_wp2_with fail)
            all_goals go_ret
            all_goals exact ⟨_, rfl, ⟨fun h9 => (by cases h9), fun h9 => absurd (h9.2 k hlt) HS.out⟩, HB.out.1⟩
      · have d1 : decide ((k : Int) < (n : Int)) = false := by simp; omega
        have d2 : decide (k < n) = false := by simp; omega
        obtain rfl : k = n := by omega
        have HB := tmh (And.intro hbr he)
        clear hbr he hk
        go_wp2_with fail
        go_ret
        exact ⟨_, rfl, ⟨fun _ => ⟨(by first | exact rfl | trivial), HB.out.2⟩, fun _ => rfl⟩, HB.out.1⟩
  · have d0 : ((n : Int) != (m : Int)) = true := by simp [bne]; omega
    have d1 : ((n : Int) == (m : Int)) = false := by simp; omega
    have HN := tmh hnm
    clear hnm
    go_enter Tryz.func44, Tryz.ntmps44
    go_wp2_with fail
    go_ret
    exact ⟨_, rfl, ⟨fun h9 => (by cases h9), fun h9 => absurd h9.1 HN.out⟩, Below.refl _ _⟩
end Go.Proofs.YtopggemomcoalaaGreat
namespace Go.Proofs.YtopggemomcoalaaGreat
open Go.ChangeShapes Go.WideShapes Go.ChangeAt Go.RowKit
set_option linter.unusedVariables false
set_option linter.unusedSimpArgs false

/-! ### a round -/
theorem a64_lead {P : Pg} {t : Nat → Nat} (h : A64 P) (ht : ∀ i, i < P.n → jmp (P.op i) = true → t (P.a i).toNat ≤ 4096) : A64 (leadP P t) := fun i hi => by
  have hi : i < P.n := hi
  show In64 (if jmp (P.op i) = true then ((t (P.a i).toNat : Nat) : Int) else P.a i)
  by_cases hj : jmp (P.op i) = true
  · rw [if_pos hj]
    have := ht i hi hj
    exact ⟨by omega, by omega⟩
  · rw [if_neg hj]
    exact h i hi
theorem a64_stp {P : Pg} (h : A64 P) : ∀ k, A64 (stpN P k)
  | 0 => h
  | k + 1 => by
    show A64 (stp1 (stpN P k) k)
    unfold stp1
    split
    · exact (a64_stp h k).setI _ _ _ in64_0
    · exact a64_stp h k
theorem a64_sh {P : Pg} {L : Nat → Int} (v : Vf P L) (h : A64 P) : A64 (shP P) := a64_stp (a64_lead h fun i hi hj => by
  have h1 := v.gd.a i hi hj
  have h2 := (endP_A v.gd (x := (P.a i).toNat) (by omega)).lt v.gd (by omega)
  have := v.sz.2.2.1
  omega) _
theorem a64_drop {P : Pg} {L : Nat → Int} (v : Vf P L) (h : A64 P) (g : Nat → Bool) : A64 (dropP P g) := by
  have hk : A64 (keptP P g) := fun i hi => by
    obtain ⟨x, h1, h2, h3, h4⟩ := kpt_at g P.n (k := i) hi
    show In64 (P.a ((kpt g P.n).getD i 0))
    rw [h4]
    exact h x h1
  refine a64_lead (P := keptP P g) hk fun i hi hj => ?_
  obtain ⟨x, h1, h2, h3, h4⟩ := kpt_at g P.n (k := i) hi
  have hj : jmp (P.op ((kpt g P.n).getD i 0)) = true := hj
  show tox g (P.a ((kpt g P.n).getD i 0)).toNat ≤ 4096
  rw [h4] at hj ⊢
  have h5 := v.gd.a x h1 hj
  have := tox_le g (P.a x).toNat
  have := v.sz.2.2.1
  omega
variable {Sf : Nat → Prop} {Hf : Nat → Option Obj} {base tb : Nat} {P : Pg} {cp ep : Option Addr} {cc ec : Nat}
/-- the clones stay -/
def RF (P : Pg) (Sf : Nat → Prop) (Hf : Nat → Option Obj) (qc qe : Option Addr) (S' : Nat → Prop) (H' : Nat → Option Obj) : Prop := (∀ j, Sf j → S' j ∧ H' j = Hf j) ∧ ∀ W' : World, (∀ j, S' j → j < W'.heap.size ∧ W'.heap[j]? = H' j) → IAt W' qc P.n P.op P.a P.b ∧ KAt W' qe P.m P.en
theorem own_iat {W : World} {b n c : Nat} {q : Option Addr} {op a bb : Nat → Int} (h : Own W b 36 3 (.slice q n c) n (inC op a bb)) : IAt W q n op a bb := by
  rcases h.form with ⟨_, h2⟩ | ⟨g, c', h1, _⟩
  · exact .inl h2
  · injection h1 with h1
    subst h1
    exact iat_own h
theorem own_kat {W : World} {b n c : Nat} {q : Option Addr} {K : Nat → Int} (h : Own W b 3 1 (.slice q n c) n (iv K)) : KAt W q n K := by
  rcases h.form with ⟨_, h2⟩ | ⟨g, c', h1, _⟩
  · exact .inl h2
  · injection h1 with h1
    subst h1
    refine .inr ⟨g, 0, rfl, (h.lt g rfl).2, fun j hj => ?_⟩
    rw [Nat.zero_add]
    exact h.cell (by omega)
theorem td_clones {W w : World} {qc qe : Option Addr} {c1 c2 : Nat} (h : TD Sf Hf W base tb P cp ep cc ec) (hb : Below W.heap.size W w) (hc : Own w W.heap.size 36 3 (.slice qc P.n c1) P.n (inC P.op P.a P.b)) (he : Own w W.heap.size 3 1 (.slice qe P.m c2) P.m (iv P.en)) : ∃ S' H', TD S' H' w base tb P cp ep cc ec ∧ RF P Sf Hf qc qe S' H' := by
  have hT := h.later hb
  refine ⟨fun j => Sf j ∨ (Value.slice qc P.n c1).ownBlock = some j ∨ (Value.slice qe P.m c2).ownBlock = some j, fun j => w.heap[j]?, ⟨hT.bx, hT.cd, hT.en, hT.lo, fun j hj => ?_, ?_, fun g o e => ?_, fun g o e => ?_⟩, fun j hj => ⟨.inl hj, (hT.fr j hj).2⟩, fun W' hW => ⟨own_iat (hc.far fun k hk => (hW k (.inr (.inl hk))).2), own_kat (he.far fun k hk => (hW k (.inr (.inr hk))).2)⟩⟩
  · rcases hj with hj | hj | hj
    · exact ⟨(hT.fr j hj).1, rfl⟩
    · exact ⟨(hc.lt j hj).2, rfl⟩
    · exact ⟨(he.lt j hj).2, rfl⟩
  · have h1 := ltB h.bx
    rintro (hj | hj | hj)
    · exact h.ft hj
    · have := (hc.lt tb hj).1; omega
    · have := (he.lt tb hj).1; omega
  · rintro (hj | hj | hj)
    · exact h.fc g o e hj
    · have h1 := (hc.lt g hj).1
      rcases h.cd.form with ⟨h2, _⟩ | ⟨g', c', h2, _⟩
      · injection h2 with h2; rw [h2] at e; cases e
      · have h3 := (h.cd.lt g' (by rw [h2]; rfl)).2
        injection h2 with h2; rw [h2] at e; injection e with e; injection e with e _; omega
    · have h1 := (he.lt g hj).1
      rcases h.cd.form with ⟨h2, _⟩ | ⟨g', c', h2, _⟩
      · injection h2 with h2; rw [h2] at e; cases e
      · have h3 := (h.cd.lt g' (by rw [h2]; rfl)).2
        injection h2 with h2; rw [h2] at e; injection e with e; injection e with e _; omega
  · rintro (hj | hj | hj)
    · exact h.fe g o e hj
    · have h1 := (hc.lt g hj).1
      rcases h.en.form with ⟨h2, _⟩ | ⟨g', c', h2, _⟩
      · injection h2 with h2; rw [h2] at e; cases e
      · have h3 := (h.en.lt g' (by rw [h2]; rfl)).2
        injection h2 with h2; rw [h2] at e; injection e with e; injection e with e _; omega
    · have h1 := (he.lt g hj).1
      rcases h.en.form with ⟨h2, _⟩ | ⟨g', c', h2, _⟩
      · injection h2 with h2; rw [h2] at e; cases e
      · have h3 := (h.en.lt g' (by rw [h2]; rfl)).2
        injection h2 with h2; rw [h2] at e; injection e with e; injection e with e _; omega
theorem cin_td {W : World} {b n c s : Nat} {t : TypeId} {q : Option Addr} {F : Nat → Value} (h : Own W b t s (.slice q n c) n F) : CIn W q n s F := by
  rcases h.form with ⟨_, h2⟩ | ⟨g, c', h1, _⟩
  · exact .inl h2
  · injection h1 with h1
    subst h1
    refine .inr ⟨g, 0, rfl, (h.lt g rfl).2, fun j hj => ?_⟩
    rw [Nat.zero_add]
    exact h.cell hj
theorem cells_td {W W' : World} (h : TD Sf Hf W base tb P cp ep cc ec) (hb : Below W.heap.size W W') : W'.cell? ⟨tb, 0, none⟩ = some (.int .i64 P.words) ∧ W'.cell? ⟨tb, 1, none⟩ = some (.int .i64 P.locals) ∧ W'.cell? ⟨tb, 2, none⟩ = some (.slice cp P.n cc) ∧ W'.cell? ⟨tb, 3, none⟩ = some (.slice ep P.m ec) := (h.later hb).cells
theorem tcells {W W' : World} (h : TD Sf Hf W base tb P cp ep cc ec) (hb : Below W.heap.size W W') : W'.cell? ⟨tb, 0, none⟩ = some (.int .i64 P.words) ∧ W'.cell? ⟨tb, 1, none⟩ = some (.int .i64 P.locals) ∧ W'.cell? ⟨tb, 2, none⟩ = some (.slice cp P.n cc) ∧ W'.cell? ⟨tb, 3, none⟩ = some (.slice ep P.m ec) := (h.later hb).cells
theorem td_back {W : World} {Q : Pg} {qc qe : Option Addr} {S' : Nat → Prop} {H' : Nat → Option Obj} (h : TD S' H' W base tb Q cp ep cc ec) (r : RF P Sf Hf qc qe S' H') : TD Sf Hf W base tb Q cp ep cc ec := ⟨h.bx, h.cd, h.en, h.lo, fun j hj => by
  obtain ⟨h1, h2⟩ := h.fr j (r.1 j hj).1
  exact ⟨h1, h2.trans (r.1 j hj).2⟩, fun hj => h.ft (r.1 _ hj).1, fun g o e hj => h.fc g o e (r.1 _ hj).1, fun g o e hj => h.fe g o e (r.1 _ hj).1⟩
theorem sameF_iff {n : Nat} {K L : Nat → Int} : sameF n K L = true ↔ ∀ j, j < n → K j = L j := ⟨fun h j hj => by
  by_cases e : K j = L j
  · exact e
  · exact absurd h (by rw [sameF_no hj e]; exact Bool.false_ne_true), sameF_yes⟩
set_option maxRecDepth 100000 in
set_option maxHeartbeats 16000000 in
theorem round_any {L : Nat → Int} (v : Vf P L) (ha : A64 P) (W : World) (h : TD Sf Hf W base tb P cp ep cc ec) (hB : base ≤ W.heap.size) :
    Calls Tryz.prog 22 #[.pointer (some ⟨tb, 0, none⟩)] W fun e W' => ∃ r, e = .returned (.bool r) ∧ (r = false ↔ PEq P (rndP R2f R1f P)) ∧ (∃ lp lc, TD Sf Hf W' base tb (rndP R2f R1f P) lp ep lc ec) ∧ Below base W W' := by
  have hn := v.sz
  have HV := tmh (And.intro v (And.intro ha (And.intro h hB)))
  have hB0 := tmh hB
  have HCI : Hid (∀ w, Below W.heap.size W w → Calls Tryz.prog 20 #[.slice cp P.n cc] w fun e w' => ∃ (q : Option Addr) (c : Nat), e = .returned (.slice q P.n c) ∧ Below W.heap.size W w' ∧ Own w' W.heap.size 36 3 (.slice q P.n c) P.n (inC P.op P.a P.b) ∧ Below w.heap.size w w') := tmh fun w hw => (cloneI_any cp P.n cc (inC P.op P.a P.b) w (by have := hn.2.2.1; omega) (cin_td (h.later hw).cd) fun j hj => rfl).mono fun e w' => by
    rintro ⟨q, c, rfl, h1, h2⟩
    exact ⟨q, c, rfl, hw.trans (h2.mono hw.size), h1.low hw.size, h2⟩
  have HCN : Hid (∀ w, Below W.heap.size W w → Calls Tryz.prog 21 #[.slice ep P.m ec] w fun e w' => ∃ (q : Option Addr) (c : Nat), e = .returned (.slice q P.m c) ∧ Below W.heap.size W w' ∧ Own w' W.heap.size 3 1 (.slice q P.m c) P.m (iv P.en) ∧ Below w.heap.size w w') := tmh fun w hw => (cloneN_any ep P.m ec (iv P.en) w (by have := hn.2.2.2; omega) (cin_td (h.later hw).en) fun j hj => rfl).mono fun e w' => by
    rintro ⟨q, c, rfl, h1, h2⟩
    exact ⟨q, c, rfl, hw.trans (h2.mono hw.size), h1.low hw.size, h2⟩
  have HS : Hid (∀ (qc qe : Option Addr) (c1 c2 : Nat) (w : World), Below W.heap.size W w ∧ Own w W.heap.size 36 3 (.slice qc P.n c1) P.n (inC P.op P.a P.b) ∧ Own w W.heap.size 3 1 (.slice qe P.m c2) P.m (iv P.en) → Calls Tryz.prog 40 #[.pointer (some ⟨tb, 0, none⟩)] w fun e w' => e = .returned (.tuple #[]) ∧ ∃ S' H', TD S' H' w' base tb (shP P) cp ep cc ec ∧ RF P Sf Hf qc qe S' H' ∧ Below base W w') := tmh fun qc qe c1 c2 w hw => by
    obtain ⟨S', H', g1, g2⟩ := td_clones h hw.1 hw.2.1 hw.2.2
    refine (shorten_any v w g1 (Nat.le_trans hB hw.1.size)).mono fun e w' => ?_
    rintro ⟨h1, h2, h3⟩
    exact ⟨h1, S', H', h2, g2, (hw.1.mono hB).trans h3⟩
  obtain ⟨y0, y1, y2, y3⟩ := h.cells
  clear v ha h hB
  go_enter Tryz.func22, Tryz.ntmps22
  go_wp2_with fail
  go_region_with (first | (go_at_call 20; (with_reducible refine (HCI.out _ ?_).mono ?_); (first | exact Below.refl _ _ | exact (Below.refl _ _).drew | assumption); rintro e w1 ⟨qc, c1, rfl, k1, k2, k3⟩; obtain ⟨y0, y1, y2, y3⟩ := cells_td HV.out.2.2.1 k1) | (go_at_call 21; (with_reducible refine (HCN.out _ ?_).mono ?_); (first | exact Below.refl _ _ | exact (Below.refl _ _).drew | assumption); rintro e w2 ⟨qe, c2, rfl, m1, m2, m3⟩; obtain ⟨y0, y1, y2, y3⟩ := cells_td HV.out.2.2.1 m1))
  all_goals (first | have HX := tmh (And.intro m1 (And.intro (k2.later m3) m2)) | have HX := tmh (And.intro k1 (And.intro k2 (m2.later k3))))
  all_goals (clear k1 k2 k3 m1 m2 m3 y0 y1 y2 y3)
  all_goals (try clear y0 y1 y2 y3)
  all_goals (try clear y0 y1 y2 y3)
  all_goals
    go_upto_region 3 with (go_at_call 40; (with_reducible refine (HS.out _ _ _ _ _ HX.out).mono ?_); rintro e w3 ⟨rfl, S', H', t3, rf, b3⟩)
    obtain ⟨v2, n2⟩ := shP_vf HV.out.1
    have a2 := a64_sh HV.out.1 HV.out.2.1
    have HU := dropUnr_any v2 w3 t3 (Nat.le_trans HV.out.2.2.2 b3.size)
    obtain ⟨L3, v3, f3⟩ := goU_drop v2
    have a3 := a64_drop v2 a2 (goU (shP P))
    obtain ⟨L4, v4, f4⟩ := goS_drop v3 f3
    have a4 := a64_drop v3 a3 (goS (dropP (shP P) (goU (shP P))))
    have H3 := tmh (And.intro rf b3)
    have hPn := HV.out.1.sz
    clear t3 rf b3 HS HX HCI HCN
    go_upto_region 4 with (go_at_call 41; (with_reducible refine HU.mono ?_); rintro e w4 ⟨rfl, ⟨lp, lc, t4⟩, b4⟩)
    have HP := dropStp_any v3 w4 t4 (Nat.le_trans HV.out.2.2.2 (H3.out.2.trans b4).size)
    have H4 := tmh (H3.out.2.trans b4)
    clear t4 b4 HU
    go_upto_region 5 with (go_at_call 42; (with_reducible refine HP.mono ?_); rintro e w5 ⟨rfl, ⟨lp5, lc5, t5⟩, b5⟩)
    have HO := fold_any v4 f4 a4 w5 t5 (Nat.le_trans HV.out.2.2.2 (H4.out.trans b5).size)
    have H5 := tmh (H4.out.trans b5)
    clear t5 b5 HP v2 n2 a2 v3 f3 a3 v4 f4 a4
    go_upto_region 6 with (go_at_call 43; (with_reducible refine HO.mono ?_); rintro e w6 ⟨rfl, t6, b6⟩)
    clear HO
    have t6 : TD S' H' w6 base tb (rndP R2f R1f P) lp5 ep lc5 ec := t6
    obtain ⟨_, hRw, hRl⟩ := (rnd_any R2f R1f HV.out.1).n
    generalize hRR : rndP R2f R1f P = R at t6 hRw hRl
    have HRR := tmh hRR
    clear hRR
    have hr0 := H3.out.1.2 w6 t6.fr
    have tb6 := td_back t6 H3.out.1
    obtain ⟨y0, y1, y2, y3⟩ := t6.cells
    have HE1 := equalI_any qc lp5 P.n R.n c1 lc5 P.op P.a P.b R.op R.a R.b (by have := hPn.2.2.1; omega) w6 hr0.1 t6.iat
    have HE2 : ∀ w, Below w6.heap.size w6 w → Calls Tryz.prog 45 #[.slice qe P.m c2, .slice ep R.m ec] w fun e w' => e = .returned (.bool (decide (P.m = R.m) && sameF P.m P.en R.en)) ∧ Below w.heap.size w w' := fun w hw => equalInts_any qe ep P.m R.m c2 ec P.en R.en (by have := hPn.2.2.2; omega) w (hr0.2.below hw) (t6.kat.below hw)
    have H6 := tmh (And.intro tb6 (And.intro (H5.out.trans b6) (And.intro hRw hRl)))
    by_cases e1 : P.n = R.n ∧ ∀ j, j < P.n → P.op j = R.op j ∧ P.a j = R.a j ∧ P.b j = R.b j
    · have HE3 : Calls Tryz.prog 44 #[.slice qc P.n c1, .slice lp5 R.n lc5] w6 fun e w' => e = .returned (.bool true) ∧ Below w6.heap.size w6 w' := HE1.mono fun e w' => by
        rintro ⟨r, rfl, g1, g2⟩
        obtain rfl : r = true := g1.2 e1
        exact ⟨rfl, g2⟩
      rcases (by cases (decide (P.m = R.m) && sameF P.m P.en R.en) <;> simp : (decide (P.m = R.m) && sameF P.m P.en R.en) = true ∨ (decide (P.m = R.m) && sameF P.m P.en R.en) = false) with e2 | e2
      · have hp : PEq P R := by
          rw [Bool.and_eq_true, decide_eq_true_eq, sameF_iff] at e2
          exact ⟨H6.out.2.2.1.symm, H6.out.2.2.2.symm, e1.1, e2.1, fun i hi => (e1.2 i hi).1, fun i hi => (e1.2 i hi).2.1, fun i hi => (e1.2 i hi).2.2, e2.2⟩
        rw [e2] at HE2
        have HP := tmh hp
        have HE2 := tmh HE2
        clear e1 e2 hp HE1 t6 tb6 hr0 b6 hRw hRl hPn H3 H4 H5 HV
        go_wp2_with (first | (go_at_call 44; (with_reducible refine HE3.mono ?_); rintro e w7 ⟨rfl, b7⟩; obtain ⟨y0, y1, y2, y3⟩ := tcells H6.out.1 b7) | (go_at_call 45; (with_reducible refine (HE2.out _ b7).mono ?_); rintro e w8 ⟨rfl, b8⟩))
        go_ret
        rw [HRR.out]
        exact ⟨_, rfl, ⟨fun _ => HP.out, fun _ => rfl⟩, ⟨_, _, (H6.out.1.later b7).later b8⟩, H6.out.2.1.trans ((b7.trans (b8.mono b7.size)).mono (Nat.le_trans hB0.out H6.out.2.1.size))⟩
      · have hp : ¬ PEq P R := fun h9 => by
          have : (decide (P.m = R.m) && sameF P.m P.en R.en) = true := by rw [Bool.and_eq_true, decide_eq_true_eq, sameF_iff]; exact ⟨h9.m, h9.en⟩
          rw [this] at e2
          cases e2
        rw [e2] at HE2
        have HP := tmh hp
        have HE2 := tmh HE2
        clear e1 e2 hp HE1 t6 tb6 hr0 b6 hRw hRl hPn H3 H4 H5 HV
        go_wp2_with (first | (go_at_call 44; (with_reducible refine HE3.mono ?_); rintro e w7 ⟨rfl, b7⟩; obtain ⟨y0, y1, y2, y3⟩ := tcells H6.out.1 b7) | (go_at_call 45; (with_reducible refine (HE2.out _ b7).mono ?_); rintro e w8 ⟨rfl, b8⟩))
        go_ret
        rw [HRR.out]
        exact ⟨_, rfl, ⟨fun h9 => (by cases h9), fun h9 => absurd h9 HP.out⟩, ⟨_, _, (H6.out.1.later b7).later b8⟩, H6.out.2.1.trans ((b7.trans (b8.mono b7.size)).mono (Nat.le_trans hB0.out H6.out.2.1.size))⟩
    · have HE3 : Calls Tryz.prog 44 #[.slice qc P.n c1, .slice lp5 R.n lc5] w6 fun e w' => e = .returned (.bool false) ∧ Below w6.heap.size w6 w' := HE1.mono fun e w' => by
        rintro ⟨r, rfl, g1, g2⟩
        obtain rfl : r = false := by
          cases r with
          | false => rfl
          | true => exact absurd (g1.1 rfl) e1
        exact ⟨rfl, g2⟩
      have hp : ¬ PEq P R := fun h9 => e1 ⟨h9.n, fun j hj => ⟨h9.op j hj, h9.a j hj, h9.b j hj⟩⟩
      have HP := tmh hp
      clear e1 hp HE1 HE2 t6 tb6 hr0 b6 hRw hRl hPn H3 H4 H5 HV
      go_wp2_with (go_at_call 44; (with_reducible refine HE3.mono ?_); rintro e w7 ⟨rfl, b7⟩)
      go_ret
      rw [HRR.out]
      exact ⟨_, rfl, ⟨fun h9 => (by cases h9), fun h9 => absurd h9 HP.out⟩, ⟨_, _, H6.out.1.later b7⟩, H6.out.2.1.trans (b7.mono (Nat.le_trans hB0.out H6.out.2.1.size))⟩
end Go.Proofs.YtopggemomcoalaaGreat
namespace Go.Proofs.YtopggemomcoalaaGreat
set_option linter.unusedVariables false
set_option linter.unusedSimpArgs false

/-! ### a round keeps 64 bits -/
theorem foldL_a64 {fr : Nat → Bool} : ∀ (f c : Nat) {P : Pg} {L : Nat → Int}, Vf P L → Full P L → A64 P → (∀ x, c < x → fr x = true → FreeP P x) → A64 (foldL R2f R1f fr f c P)
  | 0, c, P, L, v, hf, ha, hfr => ha
  | f + 1, c, P, L, v, hf, ha, hfr => by
    show A64 (if c < P.n then foldL R2f R1f fr f (c + (fatP R2f R1f fr P c).2) (fatP R2f R1f fr P c).1 else P)
    by_cases hc : c < P.n
    · rw [if_pos hc]
      have h2 := fat_a64 v hf ha fr hc
      rcases fat_any R2f R1f v hf hc hfr with h | ⟨Q, s, h, hs, hR⟩
      · rw [h]
        exact foldL_a64 f (c + 1) v hf ha fun x hx h9 => hfr x (by omega) h9
      · rw [h] at h2 ⊢
        exact foldL_a64 f (c + s) hR.vf.1 hR.vf.2 h2 fun x hx h9 => hR.fr x hx (hfr x (by omega) h9)
    · rw [if_neg hc]
      exact ha
theorem rnd_a64 {P : Pg} {L : Nat → Int} (v : Vf P L) (ha : A64 P) : A64 (rndP R2f R1f P) := by
  obtain ⟨v2, n2⟩ := shP_vf v
  obtain ⟨L3, v3, f3⟩ := goU_drop v2
  obtain ⟨L4, v4, f4⟩ := goS_drop v3 f3
  exact foldL_a64 _ 0 v4 f4 (a64_drop v3 (a64_drop v2 (a64_sh v ha) _) _) fun x _ h => of_decide_eq_true h
/-! ### a sum of two constants -/
def lq (i : Nat) : Int := if i = 0 then 0 else if i = 1 then 1 else if i = 2 then 2 else if i = 3 then 1 else 0
theorem q2_vf (x y : Int) : Vf (q2 13 x y) lq := by
  have h5 : ∀ i, i < 5 → i = 0 ∨ i = 1 ∨ i = 2 ∨ i = 3 ∨ i = 4 := fun i hi => by omega
  refine ⟨⟨⟨of_decide_eq_true rfl, of_decide_eq_true rfl⟩, ⟨of_decide_eq_true rfl, of_decide_eq_true rfl⟩, of_decide_eq_true rfl, of_decide_eq_true rfl⟩, fun i hi => ?_, fun j hj => ⟨of_decide_eq_true rfl, of_decide_eq_true rfl⟩, fun j hj _ => rfl, fun i hi => ?_, fun i hi _ => ?_, fun i hi _ he => ?_, fun i hi _ hj => ?_⟩
  · rcases h5 i hi with rfl | rfl | rfl | rfl | rfl
    · show insErr (q2 13 x y) 1 x 0 = 0
      unfold insErr
      rw [if_neg (by decide), if_neg (by decide), if_neg (by decide), if_pos (.inl rfl)]
    · show insErr (q2 13 x y) 1 y 0 = 0
      unfold insErr
      rw [if_neg (by decide), if_neg (by decide), if_neg (by decide), if_pos (.inl rfl)]
    · show insErr (q2 13 x y) 13 0 0 = 0
      rfl
    · show insErr (q2 13 x y) 4 0 0 = 0
      rfl
    · show insErr (q2 13 x y) 0 0 0 = 0
      rfl
  · rcases h5 i hi with rfl | rfl | rfl | rfl | rfl <;> exact of_decide_eq_true rfl
  · rcases h5 i hi with rfl | rfl | rfl | rfl | rfl <;> exact ⟨of_decide_eq_true rfl, of_decide_eq_true rfl⟩
  · rcases h5 i hi with rfl | rfl | rfl | rfl | rfl
    · exact ⟨of_decide_eq_true rfl, of_decide_eq_true rfl⟩
    · exact ⟨of_decide_eq_true rfl, of_decide_eq_true rfl⟩
    · exact ⟨of_decide_eq_true rfl, of_decide_eq_true rfl⟩
    · exact ⟨of_decide_eq_true rfl, of_decide_eq_true rfl⟩
    · cases he
  · rcases h5 i hi with rfl | rfl | rfl | rfl | rfl <;> cases hj
theorem q2_run (x y : Int) : (runP (q2 13 x y) (clQ 5) 5 0 (newM (fun _ => 0) 0 0 (.slice none 0 0))).1 = 0 := by
  rfl
theorem add_known (x y : Int) : R2f 13 x y ≠ none := by
  have h : (effQ (q2 13 x y)).code = 0 := by
    unfold effQ effP
    rw [if_neg (fun h => h (q2_vf x y).code), if_neg (by exact Bool.noConfusion), if_neg (by show ¬ (0 : Int) = -1; decide), if_neg (fun h => h (q2_run x y))]
  unfold R2f
  rw [if_pos h]
  exact fun e => by cases e
end Go.Proofs.YtopggemomcoalaaGreat
