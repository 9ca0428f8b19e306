import Derived.Test.YtieanhmkcbcdkaaM36
import Derived.Maps.AppendAt
namespace Go.Proofs.Ytieanhmkcbcdkaa
open Go.ChangeShapes Go.WideShapes Go.ChangeAt Go.RowKit
set_option linter.unusedVariables false
set_option linter.unusedSimpArgs false

theorem new_cells (W : World) (cs : List Value) (t : TypeId) : ∀ j u, cs[j]? = some u → (W.alloc (.cells cs.toArray t)).cell? ((⟨W.heap.size, 0, none⟩ : Addr).add j) = some u := by
  intro j u h
  rw [addr_add, Nat.zero_add, cell_of (World.alloc_heap_new W _)]
  simpa using h
theorem new_cells2 (W : World) (o : Obj) (cs : List Value) (t : TypeId) : ∀ j u, cs[j]? = some u → ((W.alloc o).alloc (.cells cs.toArray t)).cell? ((⟨W.heap.size + 1, 0, none⟩ : Addr).add j) = some u := by
  intro j u h
  have := new_cells (W.alloc o) cs t j u h
  rwa [World.size_alloc] at this
theorem own_snoc3 {W : World} {base : Nat} {t : TypeId} {v : Value} {i : Nat} {F : Nat → Value} (h : W.ownsRow base t 3 v (i + 1) (cellsF F (i * 3) ++ [F (i * 3), F (i * 3 + 1), F (i * 3 + 2)])) : Own W base t 3 v (i + 1) F := by
  have e : cellsF F (i * 3) ++ [F (i * 3), F (i * 3 + 1), F (i * 3 + 2)] = cellsF F ((i + 1) * 3) := by
    have e1 : [F (i * 3), F (i * 3 + 1), F (i * 3 + 2)] = cellsF (fun j => F (i * 3 + j)) 3 := rfl
    rw [e1, cellsF_append, Nat.add_mul, Nat.one_mul]
    refine cellsF_congr fun j hj => ?_
    by_cases h : j < i * 3
    · simp only [if_pos h]
    · simp only [if_neg h]
      congr 1
      omega
  unfold Own
  rw [← e]
  exact h
theorem own_snoc1 {W : World} {base : Nat} {t : TypeId} {v : Value} {i : Nat} {F : Nat → Value} (h : W.ownsRow base t 1 v (i + 1) (cellsF F (i * 1) ++ [F i])) : Own W base t 1 v (i + 1) F := by
  have e : cellsF F (i * 1) ++ [F i] = cellsF F ((i + 1) * 1) := by
    have e1 : [F i] = cellsF (fun j => F (i + j)) 1 := rfl
    rw [e1, cellsF_append, Nat.mul_one, Nat.mul_one]
    refine cellsF_congr fun j hj => ?_
    by_cases h : j < i
    · simp only [if_pos h]
    · simp only [if_neg h]
      congr 1
      omega
  unfold Own
  rw [← e]
  exact h
theorem inC3 (op a b : Nat → Int) (i : Nat) : inC op a b (i * 3) = .int .i64 (op i) ∧ inC op a b (i * 3 + 1) = .int .i64 (a i) ∧ inC op a b (i * 3 + 2) = .int .i64 (b i) := by
  unfold inC
  rw [show (i * 3) % 3 = 0 by omega, show (i * 3) / 3 = i by omega, show (i * 3 + 1) % 3 = 1 by omega, show (i * 3 + 1) / 3 = i by omega, show (i * 3 + 2) % 3 = 2 by omega, show (i * 3 + 2) / 3 = i by omega]
  exact ⟨rfl, rfl, rfl⟩
theorem kw_eq (n : Int) : IntKind.i64.wrap n = wrap64 n := by
  rw [IntKind.wrap_i64]
  unfold wrap64
  omega
theorem own_iat {W : World} {base : Nat} {q : Option Addr} {n c : Nat} {op a b : Nat → Int} (h : Own W base 51 3 (.slice q n c) n (inC op a b)) : IAt W q n op a b := by
  rcases h.form with ⟨e1, e2⟩ | ⟨g, c', e1, _, _⟩
  · exact .inl e2
  · cases e1
    exact iat_own h
theorem own_kati {W : World} {base : Nat} {q : Option Addr} {n c : Nat} {K : Nat → Int} (h : Own W base 3 1 (.slice q n c) n (iv K)) : KAt W q n K := by
  rcases h.form with ⟨e1, e2⟩ | ⟨g, c', e1, e2, e3⟩
  · exact .inl e2
  · cases e1
    exact .inr ⟨g, 0, rfl, e3, fun j hj => by rw [Nat.zero_add]; exact h.cell (by omega)⟩
set_option maxRecDepth 100000 in
set_option maxHeartbeats 8000000 in
theorem moved_any (P : Pg) (v : PgV) (p : Nat) (w : World) (h : PAt w P v) (hz : MvOk P p) :
    Calls Try.prog 16 #[.agg #[.int .i64 P.words, .int .i64 P.locals, .slice v.cp P.n v.cc, .slice v.ep P.m v.ec], .int .i64 p] w fun e w' => ∃ u : PgV, e = .returned (.agg #[.int .i64 P.words, .int .i64 P.locals, .slice u.cp (p + P.n) u.cc, .slice u.ep P.m u.ec]) ∧ PAt w' (mvP P p) u ∧ Below w.heap.size w w' := by
  obtain ⟨i5, hi5, ha5, hb5, hc5⟩ := info_parts infoIns
  obtain ⟨i3, hi3, ha3, hb3, hc3⟩ := info_parts infoInt
  obtain ⟨w2, hw2⟩ : ∃ w2, (w.alloc (.cells #[.int .i64 P.words, .int .i64 P.locals, .slice v.cp P.n v.cc, .slice v.ep P.m v.ec] 25)).alloc (.cells #[.int .i64 0, .int .i64 0, .slice none 0 0, .slice none 0 0] 25) = w2 := ⟨_, rfl⟩
  have hb2 : Below w.heap.size w w2 := by rw [← hw2]; exact ((Below.refl _ w).alloc (Nat.le_refl _) _).alloc (by simp) _
  have hpb : w2.heap[w.heap.size]? = some (.cells #[.int .i64 P.words, .int .i64 P.locals, .slice v.cp P.n v.cc, .slice v.ep P.m v.ec] 25 (0, 0)) := by
    rw [← hw2, Below.heap_alloc _ _ _ (by simp)]
    exact World.alloc_heap_new w _
  have hrb : w2.heap[w.heap.size + 1]? = some (.cells #[.int .i64 0, .int .i64 0, .slice none 0 0, .slice none 0 0] 25 (0, 0)) := by
    rw [← hw2]
    have := World.alloc_heap_new (w.alloc (.cells #[.int .i64 P.words, .int .i64 P.locals, .slice v.cp P.n v.cc, .slice v.ep P.m v.ec] 25)) (.cells #[.int .i64 0, .int .i64 0, .slice none 0 0, .slice none 0 0] 25)
    rwa [World.size_alloc] at this
  have hs2 : w2.heap.size = w.heap.size + 2 := by rw [← hw2]; simp
  obtain ⟨B, hB⟩ : ∃ B, w2.heap.size = B := ⟨_, rfl⟩
  have HBB : Hid (w2.heap.size = B) := hB
  have hBw : w.heap.size + 2 = B := by omega
  have HBW : Hid (w.heap.size + 2 = B) := hBw
  have HP : Hid (PAt w P v) := h
  have HZ : Hid (MvOk P p) := hz
  have HW2 : Hid ((w.alloc (.cells #[.int .i64 P.words, .int .i64 P.locals, .slice v.cp P.n v.cc, .slice v.ep P.m v.ec] 25)).alloc (.cells #[.int .i64 0, .int .i64 0, .slice none 0 0, .slice none 0 0] 25) = w2) := hw2
  have hp100 := hz.le
  have hn4 := hz.n
  have hm32 : P.m ≤ 32 := (dcode_zero hz.z).2.1.2.2.2
  clear hw2 h hz hB hs2 hBw
  go_enter Try.func16, Try.ntmps16
  go_wp2
  rw [HW2.out]
  clear HW2
  go_loopw [5, 6] (fun x y wr => ∃ i : Nat, y = .int .i64 i ∧ i ≤ p ∧ Own wr B 51 3 x i (inC (mvP P p).op (mvP P p).a (mvP P p).b) ∧ Below B w2 wr) (fun _ y _ => p - (intOf y).toNat)
  case atStart => exact ⟨0, rfl, Nat.zero_le _, Own.nil0, Below.refl _ _⟩
  case round =>
    obtain ⟨i, rfl, hi, hO, hbel⟩ := hrel
    have hbs := hbel.size
    rw [HBB.out] at hbs
    by_cases hlt : i < p
    · have dl : decide ((i : Int) < p) = true := decide_eq_true (by omega)
      have hm := meas hlt
      have hci := inC3 (mvP P p).op (mvP P p).a (mvP P p).b i
      rw [(mv_op0 P hlt).1, (mv_op0 P hlt).2.1, (mv_op0 P hlt).2.2] at hci
      have HCI : Hid ((inC (mvP P p).op (mvP P p).a (mvP P p).b) (i * 3) = .int .i64 40 ∧ (inC (mvP P p).op (mvP P p).a (mvP P p).b) (i * 3 + 1) = .int .i64 0 ∧ (inC (mvP P p).op (mvP P p).a (mvP P p).b) (i * 3 + 2) = .int .i64 0) := hci
      clear hci
      go_wp2_with (at_builtin; refine wpList_append_own_at _ rfl _ _ 22 rfl B 51 i5 _ 3 24 Try.underlying22 hi5 ha5 hb5 hc5 rfl (by decide) u5 (i) _ rfl (hO.later ((Below.refl _ wr).alloc (Nat.le_refl _) _)) ⟨wr.heap.size, 0, none⟩ 1 1 [.int .i64 40, .int .i64 0, .int .i64 0] rfl rfl (new_cells _ _ _) (by simp [Value.oneCell']) ?p1 ?p2 ?p3 ?_; (case p1 => (unfold maxLen; omega)); (case p2 => omega); (case p3 => (simp; omega)); intro x' w5 hown5 hgrow5 _ hat5)
      refine ⟨⟨i + 1, rfl, hlt, own_snoc3 ?_, ?_⟩, hm⟩
      · rw [HCI.out.1, HCI.out.2.1, HCI.out.2.2]
        exact hown5
      · exact (hbel.alloc hbs _).grown hgrow5 (by simp; omega) (fun k hk => (hO.lt k hk).1)
    · have dl : decide ((i : Int) < p) = false := decide_eq_false (by omega)
      have hip : i = p := by omega
      rw [hip] at hO
      clear hip
      go_wp2
      go_loopw [5, 7] (fun x y wr => ∃ i : Nat, y = .int .i64 i ∧ i ≤ P.n ∧ Own wr B 51 3 x (p + i) (inC (mvP P p).op (mvP P p).a (mvP P p).b) ∧ Below B w2 wr) (fun _ y _ => P.n - (intOf y).toNat)
      case atStart => exact ⟨0, rfl, Nat.zero_le _, hO, hbel⟩
      case round =>
        clear hO hbel hbs dl hlt hi
        obtain ⟨i, rfl, hi, hO, hbel⟩ := hrel
        have hbs := hbel.size
        rw [HBB.out] at hbs
        have hbw := HBW.out
        have hwr : Below w.heap.size w wr := hb2.trans (hbel.mono (by omega))
        obtain ⟨a0, a1, a2, a3⟩ := cells4 ((hbel.block _ (by omega)).trans hpb)
        by_cases hlt : i < P.n
        · have dl : decide ((i : Int) < P.n) = true := decide_eq_true (by omega)
          have hm := meas hlt
          obtain hI0 | ⟨cb, co, hcp, hcl, hcc⟩ := HP.out.1.below hwr
          · omega
          rw [hcp] at a2
          obtain ⟨x0, x1, x2⟩ := hcc i hlt
          have j0 : (0 : Int) ≤ (i : Int) := by omega
          have j1 : (i : Int) < (P.n : Int) := by omega
          have hci := inC3 (mvP P p).op (mvP P p).a (mvP P p).b (p + i)
          rw [mv_op, mv_a, mv_b] at hci
          have hlw : w.heap.size < wr.heap.size := by omega
          have hbA : Below B w2 (wr.alloc (.cells #[.int .i64 (P.op i), .int .i64 (P.a i), .int .i64 (P.b i)] 51)) := hbel.alloc hbs _
          clear hcc hcl hwr hcp
          by_cases hj : jmp (P.op i) = true
          · rw [if_pos hj] at hci
            have HCI : Hid ((inC (mvP P p).op (mvP P p).a (mvP P p).b) ((p + i) * 3) = .int .i64 (P.op i) ∧ (inC (mvP P p).op (mvP P p).a (mvP P p).b) ((p + i) * 3 + 1) = .int .i64 (wrap64 (P.a i + p)) ∧ (inC (mvP P p).op (mvP P p).a (mvP P p).b) ((p + i) * 3 + 2) = .int .i64 (P.b i)) := hci
            clear hci
            have ho : P.op i = 35 ∨ P.op i = 36 := by unfold jmp at hj; simpa using hj
            clear hj
            have fin : ∀ (x' : Value) (w4 w5 : World), Below B w2 w4 → B ≤ w4.heap.size → w5.ownsRow B 51 3 x' (p + i + 1) (cellsF (inC (mvP P p).op (mvP P p).a (mvP P p).b) ((p + i) * 3) ++ [.int .i64 (P.op i), .int .i64 (wrap64 (P.a i + p)), .int .i64 (P.b i)]) → w4.grownBy w5 u5.ownBlock → Own w5 B 51 3 x' (p + (i + 1)) (inC (mvP P p).op (mvP P p).a (mvP P p).b) ∧ Below B w2 w5 := fun x' w4 w5 g1 g2 g3 g4 => by
              refine ⟨?_, g1.grown g4 g2 (fun k hk => (hO.lt k hk).1)⟩
              rw [← Nat.add_assoc]
              refine own_snoc3 ?_
              rw [HCI.out.1, HCI.out.2.1, HCI.out.2.2]
              exact g3
            have HFIN : Hid (∀ (x' : Value) (w4 w5 : World), Below B w2 w4 → B ≤ w4.heap.size → w5.ownsRow B 51 3 x' (p + i + 1) (cellsF (inC (mvP P p).op (mvP P p).a (mvP P p).b) ((p + i) * 3) ++ [.int .i64 (P.op i), .int .i64 (wrap64 (P.a i + p)), .int .i64 (P.b i)]) → w4.grownBy w5 u5.ownBlock → Own w5 B 51 3 x' (p + (i + 1)) (inC (mvP P p).op (mvP P p).a (mvP P p).b) ∧ Below B w2 w5) := fin
            clear fin
            rcases ho with ho | ho
            · have q1 : (P.op i == 35) = true := by simpa using ho
              clear ho
              go_wp2_with (at_builtin; refine wpList_append_own_at _ rfl _ _ 22 rfl B 51 i5 _ 3 24 Try.underlying22 hi5 ha5 hb5 hc5 rfl (by decide) u5 (p + i) _ rfl (hO.later (((Below.refl _ wr).alloc (Nat.le_refl _) _).alloc (by simp) _)) ⟨wr.heap.size + 1, 0, none⟩ 1 1 [.int .i64 (P.op i), .int .i64 (wrap64 (P.a i + p)), .int .i64 (P.b i)] rfl rfl (new_cells2 _ _ _ _) (by simp [Value.oneCell']) ?p1 ?p2 ?p3 ?_; (case p1 => (unfold maxLen; omega)); (case p2 => omega); (case p3 => (simp; omega)); intro x' w5 hown5 hgrow5 _ hat5)
              obtain ⟨g1, g2⟩ := HFIN.out x' _ w5 ((hbel.alloc hbs _).alloc (by simp; omega) _) (by simp; omega) hown5 hgrow5
              exact ⟨⟨i + 1, rfl, hlt, g1, g2⟩, hm⟩
            · have q1 : (P.op i == 35) = false := by rw [ho]; rfl
              have q2 : (P.op i == 36) = true := by simpa using ho
              clear ho
              go_wp2_with (at_builtin; refine wpList_append_own_at _ rfl _ _ 22 rfl B 51 i5 _ 3 24 Try.underlying22 hi5 ha5 hb5 hc5 rfl (by decide) u5 (p + i) _ rfl (hO.later (((Below.refl _ wr).alloc (Nat.le_refl _) _).alloc (by simp) _)) ⟨wr.heap.size + 1, 0, none⟩ 1 1 [.int .i64 (P.op i), .int .i64 (wrap64 (P.a i + p)), .int .i64 (P.b i)] rfl rfl (new_cells2 _ _ _ _) (by simp [Value.oneCell']) ?p1 ?p2 ?p3 ?_; (case p1 => (unfold maxLen; omega)); (case p2 => omega); (case p3 => (simp; omega)); intro x' w5 hown5 hgrow5 _ hat5)
              obtain ⟨g1, g2⟩ := HFIN.out x' _ w5 ((hbel.alloc hbs _).alloc (by simp; omega) _) (by simp; omega) hown5 hgrow5
              exact ⟨⟨i + 1, rfl, hlt, g1, g2⟩, hm⟩
          · rw [if_neg hj] at hci
            have HCI : Hid ((inC (mvP P p).op (mvP P p).a (mvP P p).b) ((p + i) * 3) = .int .i64 (P.op i) ∧ (inC (mvP P p).op (mvP P p).a (mvP P p).b) ((p + i) * 3 + 1) = .int .i64 (P.a i) ∧ (inC (mvP P p).op (mvP P p).a (mvP P p).b) ((p + i) * 3 + 2) = .int .i64 (P.b i)) := hci
            clear hci
            have q : P.op i ≠ 35 ∧ P.op i ≠ 36 := ⟨fun e => hj (by rw [e]; rfl), fun e => hj (by rw [e]; rfl)⟩
            have q1 : (P.op i == 35) = false := by simpa using q.1
            have q2 : (P.op i == 36) = false := by simpa using q.2
            clear hj q
            have fin : ∀ (x' : Value) (w4 w5 : World), Below B w2 w4 → B ≤ w4.heap.size → w5.ownsRow B 51 3 x' (p + i + 1) (cellsF (inC (mvP P p).op (mvP P p).a (mvP P p).b) ((p + i) * 3) ++ [.int .i64 (P.op i), .int .i64 (P.a i), .int .i64 (P.b i)]) → w4.grownBy w5 u5.ownBlock → Own w5 B 51 3 x' (p + (i + 1)) (inC (mvP P p).op (mvP P p).a (mvP P p).b) ∧ Below B w2 w5 := fun x' w4 w5 g1 g2 g3 g4 => by
              refine ⟨?_, g1.grown g4 g2 (fun k hk => (hO.lt k hk).1)⟩
              rw [← Nat.add_assoc]
              refine own_snoc3 ?_
              rw [HCI.out.1, HCI.out.2.1, HCI.out.2.2]
              exact g3
            have HFIN : Hid (∀ (x' : Value) (w4 w5 : World), Below B w2 w4 → B ≤ w4.heap.size → w5.ownsRow B 51 3 x' (p + i + 1) (cellsF (inC (mvP P p).op (mvP P p).a (mvP P p).b) ((p + i) * 3) ++ [.int .i64 (P.op i), .int .i64 (P.a i), .int .i64 (P.b i)]) → w4.grownBy w5 u5.ownBlock → Own w5 B 51 3 x' (p + (i + 1)) (inC (mvP P p).op (mvP P p).a (mvP P p).b) ∧ Below B w2 w5) := fin
            clear fin
            go_wp2_with (at_builtin; refine wpList_append_own_at _ rfl _ _ 22 rfl B 51 i5 _ 3 24 Try.underlying22 hi5 ha5 hb5 hc5 rfl (by decide) u5 (p + i) _ rfl (hO.later (((Below.refl _ wr).alloc (Nat.le_refl _) _).alloc (by simp) _)) ⟨wr.heap.size + 1, 0, none⟩ 1 1 [.int .i64 (P.op i), .int .i64 (P.a i), .int .i64 (P.b i)] rfl rfl (new_cells2 _ _ _ _) (by simp [Value.oneCell']) ?p1 ?p2 ?p3 ?_; (case p1 => (unfold maxLen; omega)); (case p2 => omega); (case p3 => (simp; omega)); intro x' w5 hown5 hgrow5 _ hat5)
            obtain ⟨g1, g2⟩ := HFIN.out x' _ w5 ((hbel.alloc hbs _).alloc (by simp; omega) _) (by simp; omega) hown5 hgrow5
            exact ⟨⟨i + 1, rfl, hlt, g1, g2⟩, hm⟩
        · have dl : decide ((i : Int) < P.n) = false := decide_eq_false (by omega)
          obtain rfl : i = P.n := by omega
          go_wp2
          have hOc : Own wr B 51 3 u5 (p + P.n) (inC (mvP P p).op (mvP P p).a (mvP P p).b) := hO
          obtain ⟨vc, hvc⟩ : ∃ vc, u5 = vc := ⟨_, rfl⟩
          rw [hvc] at hOc ⊢
          clear hvc hO a0 a1 a2 a3 hwr dl hlt
          go_loopw [9, 10] (fun x y wr => ∃ i : Nat, y = .int .i64 i ∧ i ≤ P.m ∧ Own wr B 3 1 x i (iv (mvP P p).en) ∧ Own wr B 51 3 vc (p + P.n) (inC (mvP P p).op (mvP P p).a (mvP P p).b) ∧ (∀ k, vc.ownBlock = some k → x.ownBlock ≠ some k) ∧ Below B w2 wr) (fun _ y _ => P.m - (intOf y).toNat)
          case atStart => exact ⟨0, rfl, Nat.zero_le _, Own.nil0, hOc, fun k _ => by simp [Value.ownBlock], hbel⟩
          case round =>
            clear hOc hbel hbs hi
            obtain ⟨i, rfl, hi, hO3, hOc, hdis, hbel⟩ := hrel
            have hbs := hbel.size
            rw [HBB.out] at hbs
            have hwr : Below w.heap.size w wr := hb2.trans (hbel.mono (by omega))
            obtain ⟨a0, a1, a2, a3⟩ := cells4 ((hbel.block _ (by omega)).trans hpb)
            have hlw : w.heap.size < wr.heap.size := by omega
            by_cases hlt : i < P.m
            · have dl : decide ((i : Int) < P.m) = true := decide_eq_true (by omega)
              have hm := meas hlt
              obtain hI0 | ⟨cb, co, hcp, hcl, hcc⟩ := HP.out.2.below hwr
              · omega
              rw [hcp] at a3
              have x0 := hcc i hlt
              have j0 : (0 : Int) ≤ (i : Int) := by omega
              have j1 : (i : Int) < (P.m : Int) := by omega
              have fin : ∀ (x' : Value) (w5 : World), w5.ownsRow B 3 1 x' (i + 1) (cellsF (iv (mvP P p).en) (i * 1) ++ [.int .i64 ((mvP P p).en i)]) → ∀ (o : Obj), (wr.alloc o).grownBy w5 u9.ownBlock → (x'.ownBlock = u9.ownBlock ∨ x'.ownBlock = some (wr.alloc o).heap.size) → Own w5 B 3 1 x' (i + 1) (iv (mvP P p).en) ∧ Own w5 B 51 3 vc (p + P.n) (inC (mvP P p).op (mvP P p).a (mvP P p).b) ∧ (∀ k, vc.ownBlock = some k → x'.ownBlock ≠ some k) ∧ Below B w2 w5 := fun x' w5 g1 o g2 g3 => by
                refine ⟨own_snoc1 g1, ?_, fun k hk => ?_, (hbel.alloc hbs o).grown g2 (by simp; omega) (fun k hk => (hO3.lt k hk).1)⟩
                · refine (hOc.later ((Below.refl _ wr).alloc (Nat.le_refl _) o)).far fun k hk => ?_
                  have hl := (hOc.lt k hk).2
                  exact g2.block k (by rw [World.size_alloc]; omega) (fun e => hdis k hk e.symm)
                · have hl := (hOc.lt k hk).2
                  rcases g3 with e | e
                  · rw [e]; exact hdis k hk
                  · rw [e, World.size_alloc]
                    intro hc
                    injection hc with hc
                    omega
              have HFIN : Hid (∀ (x' : Value) (w5 : World), w5.ownsRow B 3 1 x' (i + 1) (cellsF (iv (mvP P p).en) (i * 1) ++ [.int .i64 ((mvP P p).en i)]) → ∀ (o : Obj), (wr.alloc o).grownBy w5 u9.ownBlock → (x'.ownBlock = u9.ownBlock ∨ x'.ownBlock = some (wr.alloc o).heap.size) → Own w5 B 3 1 x' (i + 1) (iv (mvP P p).en) ∧ Own w5 B 51 3 vc (p + P.n) (inC (mvP P p).op (mvP P p).a (mvP P p).b) ∧ (∀ k, vc.ownBlock = some k → x'.ownBlock ≠ some k) ∧ Below B w2 w5) := fin
              have hQe : (mvP P p).en i = if 0 ≤ P.en i then wrap64 (P.en i + p) else P.en i := rfl
              clear fin hcc hcl hwr hOc hdis hcp
              by_cases he : 0 ≤ P.en i
              · rw [if_pos he] at hQe
                rw [hQe] at HFIN
                have q1 : decide (0 ≤ P.en i) = true := decide_eq_true he
                clear hQe he
                go_wp2_with (at_builtin; refine wpList_append_own_at _ rfl _ _ 23 rfl B 3 i3 _ 1 8 Try.underlying23 hi3 ha3 hb3 hc3 rfl (by decide) u9 (i) _ rfl (hO3.later ((Below.refl _ wr).alloc (Nat.le_refl _) _)) ⟨wr.heap.size, 0, none⟩ 1 1 [.int .i64 (wrap64 (P.en i + p))] rfl rfl (new_cells _ _ _) (by simp [Value.oneCell']) ?p1 ?p2 ?p3 ?_; (case p1 => (unfold maxLen; omega)); (case p2 => omega); (case p3 => (simp; omega)); intro x' w5 hown5 hgrow5 _ hat5)
                obtain ⟨g1, g2, g3, g4⟩ := HFIN.out x' w5 hown5 _ hgrow5 hat5
                exact ⟨⟨i + 1, rfl, hlt, g1, g2, g3, g4⟩, hm⟩
              · rw [if_neg he] at hQe
                rw [hQe] at HFIN
                have q1 : decide (0 ≤ P.en i) = false := decide_eq_false he
                clear hQe he
                go_wp2_with (at_builtin; refine wpList_append_own_at _ rfl _ _ 23 rfl B 3 i3 _ 1 8 Try.underlying23 hi3 ha3 hb3 hc3 rfl (by decide) u9 (i) _ rfl (hO3.later ((Below.refl _ wr).alloc (Nat.le_refl _) _)) ⟨wr.heap.size, 0, none⟩ 1 1 [.int .i64 (P.en i)] rfl rfl (new_cells _ _ _) (by simp [Value.oneCell']) ?p1 ?p2 ?p3 ?_; (case p1 => (unfold maxLen; omega)); (case p2 => omega); (case p3 => (simp; omega)); intro x' w5 hown5 hgrow5 _ hat5)
                obtain ⟨g1, g2, g3, g4⟩ := HFIN.out x' w5 hown5 _ hgrow5 hat5
                exact ⟨⟨i + 1, rfl, hlt, g1, g2, g3, g4⟩, hm⟩
            · have dl : decide ((i : Int) < P.m) = false := decide_eq_false (by omega)
              obtain rfl : i = P.m := by omega
              obtain ⟨qc, cc, hvc⟩ := own_slice hOc
              obtain ⟨qe, ce, hve⟩ := own_slice hO3
              subst hvc hve
              have hres := (hbel.block (w.heap.size + 1) (by omega)).trans hrb
              obtain ⟨r0, r1, r2, r3⟩ := cells4 hres
              have rf := frz hres
              have rf0 := rf 0
              have rf1 := rf 1
              have rf2 := rf 2
              have rf3 := rf 3
              have HOC : Hid (Own wr B 51 3 (.slice qc (p + P.n) cc) (p + P.n) (inC (mvP P p).op (mvP P p).a (mvP P p).b)) := hOc
              have HO3 : Hid (Own wr B 3 1 (.slice qe P.m ce) P.m (iv (mvP P p).en)) := hO3
              clear hOc hO3 rf
              go_wp2
              generalize hWF : (World.setCell (World.setCell (World.setCell (World.setCell _ _ _) _ _) _ _) _ _) = wF
              have hwF : wF = (((wr.setCell ⟨w.heap.size + 1, 0, none⟩ (.int .i64 P.words)).setCell ⟨w.heap.size + 1, 1, none⟩ (.int .i64 P.locals)).setCell ⟨w.heap.size + 1, 2, none⟩ (.slice qc (p + P.n) cc)).setCell ⟨w.heap.size + 1, 3, none⟩ (.slice qe P.m ce) := hWF.symm
              clear hWF
              have hF : wF.heap[w.heap.size + 1]? = some (.cells #[.int .i64 P.words, .int .i64 P.locals, .slice qc (p + P.n) cc, .slice qe P.m ce] 25 (0, 0)) := by
                rw [hwF, setCell_block _ _ _ _ (setCell_block _ _ _ _ (setCell_block _ _ _ _ (setCell_block _ _ _ _ hres)))]
                rfl
              have far : ∀ k, k ≠ w.heap.size + 1 → wF.heap[k]? = wr.heap[k]? := fun k h1 => by
                rw [hwF, Below.heap_setCell _ _ _ _ h1, Below.heap_setCell _ _ _ _ h1, Below.heap_setCell _ _ _ _ h1, Below.heap_setCell _ _ _ _ h1]
              have hbF : Below w.heap.size w wF := by
                rw [hwF]
                exact (((hwr.setCell (p := ⟨w.heap.size + 1, 0, none⟩) (Nat.le_succ _) _).setCell (p := ⟨w.heap.size + 1, 1, none⟩) (Nat.le_succ _) _).setCell (p := ⟨w.heap.size + 1, 2, none⟩) (Nat.le_succ _) _).setCell (p := ⟨w.heap.size + 1, 3, none⟩) (Nat.le_succ _) _
              obtain ⟨d0, d1, d2, d3⟩ := cells4 hF
              refine bodyPost_ret (v := .agg #[.int .i64 P.words, .int .i64 P.locals, .slice qc (p + P.n) cc, .slice qe P.m ce]) (by simp [results, Try.results16, go_sem, d0, d1, d2, d3]; try rfl) rfl ?_
              refine ⟨⟨qc, cc, qe, ce⟩, rfl, ⟨own_iat (HOC.out.far fun k hk => far k ?_), own_kati (HO3.out.far fun k hk => far k ?_)⟩, hbF⟩
              · have := (HOC.out.lt k hk).1
                omega
              · have := (HO3.out.lt k hk).1
                omega
end Go.Proofs.Ytieanhmkcbcdkaa
