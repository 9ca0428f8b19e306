import Derived.Test.YtlklolmhaiaaiaaJYB4
namespace Go.Proofs.Ytlklolmhaiaaiaa
open Go.ChangeShapes Go.WideShapes Go.ChangeAt Go.RowKit
set_option linter.unusedVariables false
set_option linter.unusedSimpArgs false

def lF (S : List Nat) (j : Nat) : Value := .int .i64 ((S.getD j 0 : Nat) : Int)
theorem lrow {w : World} {base d : Nat} {C : List Nat} {v : Value} (h : w.ownsRow base 3 1 v (C.length + 1) (cellsF (lF C) (C.length * 1) ++ [.int .i64 (d : Int)])) : ∃ p c, v = .slice p (C ++ [d]).length c ∧ Own w base 3 1 v (C ++ [d]).length (lF (C ++ [d])) := by
  have hO : Own w base 3 1 v (C ++ [d]).length (lF (C ++ [d])) := by
    have e6 : ([.int .i64 (d : Int)] : List Value) = cellsF (fun j => ([.int .i64 (d : Int)] : List Value).getD j undef) 1 := rfl
    rw [e6, cellsF_append, show C.length * 1 + 1 = (C.length + 1) * 1 by omega] at h
    rw [show (C ++ [d]).length = C.length + 1 by simp]
    refine Own.congr (F := fun j => if j < C.length * 1 then lF C j else ([.int .i64 (d : Int)] : List Value).getD (j - C.length * 1) undef) h fun j hj => ?_
    rw [Nat.mul_one] at hj ⊢
    by_cases hlt : j < C.length
    · rw [if_pos hlt]
      unfold lF
      rw [List.getD_eq_getElem?_getD, List.getD_eq_getElem?_getD, List.getElem?_append_left hlt]
    · rw [if_neg hlt]
      have e : j = C.length := by omega
      subst e
      unfold lF
      simp
  rcases hO.form with ⟨h1, h2⟩ | ⟨g6, c6, h2, _, _⟩
  · simp at h2
  · exact ⟨_, _, h2, hO⟩
/-- a list of numbers that a function keeps -/
def NL (W : World) (base : Nat) (v : Value) (C : List Nat) : Prop := (∃ p c, v = .slice p C.length c) ∧ Own W base 3 1 v C.length (lF C)
theorem NL.later {W W' : World} {base : Nat} {v : Value} {C : List Nat} (h : NL W base v C) (hb : Below W.heap.size W W') : NL W' base v C := ⟨h.1, h.2.later hb⟩
theorem NL.row {W : World} {base : Nat} {v : Value} {C : List Nat} (h : NL W base v C) (hn : 0 < C.length) : ∃ b c, v = .slice (some ⟨b, 0, none⟩) C.length c ∧ base ≤ b ∧ b < W.heap.size ∧ C.length ≤ c ∧ ∀ j, j < C.length → W.cell? ⟨b, j, none⟩ = some (.int .i64 ((C.getD j 0 : Nat) : Int)) := by
  rcases h.2.form with ⟨_, h2⟩ | ⟨b, c, h2, h3, h4⟩
  · omega
  · subst h2
    obtain ⟨cur, _, _, h5, _⟩ := h.2.block
    exact ⟨b, c, rfl, h3, h4, h5, fun j hj => h.2.cell (by omega)⟩
theorem NL.cut {W : World} {base b c : Nat} {C C' : List Nat} (h : NL W base (.slice (some ⟨b, 0, none⟩) C.length c) C) {x : Nat} (e : C = C' ++ [x]) : NL W base (.slice (some ⟨b, 0, none⟩) (C.length - 1) c) C' := by
  have hl : C.length - 1 = C'.length := by rw [e]; simp
  rw [hl]
  refine ⟨⟨_, _, rfl⟩, ?_⟩
  refine (own_cut h.2 (m' := C'.length) (by omega)).congr fun j hj => ?_
  unfold lF
  rw [e, List.getD_eq_getElem?_getD, List.getD_eq_getElem?_getD, List.getElem?_append_left (by omega)]
theorem upto_snoc : ∀ (m a : Nat), upto a (m + 1) = upto a m ++ [a + m]
  | 0, a => by simp [upto]
  | m + 1, a => by
    rw [show upto a (m + 1 + 1) = a :: upto (a + 1) (m + 1) from rfl, upto_snoc m (a + 1), show upto a (m + 1) = a :: upto (a + 1) m from rfl, List.cons_append, show a + 1 + m = a + (m + 1) by omega]
theorem upto_D {m a i : Nat} (h : i < m) : (upto a m).getD i 0 = a + i := by rw [List.getD_eq_getElem?_getD, upto_get m a i h]; rfl
theorem ds_drop {t : Tr} {i : Nat} (h : i < t.size) : (((t.spots 0).map Prod.snd).drop i) = dpN t i :: (((t.spots 0).map Prod.snd).drop (i + 1)) := by
  have h3 := spot_at h
  have hl := spots_len t 0
  rw [List.getElem?_eq_getElem (by omega)] at h3
  rw [List.drop_eq_getElem_cons (by simp; omega), List.getElem_map, Option.some.inj h3]
theorem ds_end {t : Tr} {i : Nat} (h : ¬ i < t.size) : (((t.spots 0).map Prod.snd).drop i) = [] := List.drop_eq_nil_of_le (by have := spots_len t 0; simp; omega)
theorem spots_dp : ∀ (t : Tr) (D : Nat), ∀ s ∈ t.spots D, s.2 < D + t.size
  | .nil, D, s, hs => by simp [Tr.spots] at hs
  | .node l x r, D, s, hs => by
    simp only [Tr.spots, List.mem_append, List.mem_cons] at hs
    simp only [Tr.size]
    rcases hs with h | h | h
    · have := spots_dp l (D + 1) s h; omega
    · subst h; dsimp only; omega
    · have := spots_dp r (D + 1) s h; omega
theorem dpN_le (t : Tr) (i : Nat) : dpN t i ≤ t.size := by
  by_cases h : i < t.size
  · have := spots_dp t 0 _ (List.mem_of_getElem? (spot_at h))
    dsimp only at this
    omega
  · unfold dpN
    rw [List.getD_eq_getElem?_getD, List.getElem?_eq_none (by rw [spots_len]; omega)]
    exact Nat.zero_le _
def slLen : Value → Nat
  | .slice _ n _ => n
  | _ => 0
/-- the last of what the inner loop has taken away -/
def lastV (d m m' : Nat) : Int := if m' = m then -1 else (d : Int) + 1 + m'
set_option maxRecDepth 100000 in
set_option maxHeartbeats 4000000 in
theorem tree_any {t : Tr} {pd : Option Addr} {cd : Nat} (W : World) (hd : DpW W pd t) (hsz : t.size ≤ 8192) : Calls Try.prog 11 #[.slice pd t.size cd] W fun e W' => e = .returned (.bool true) ∧ Below W.heap.size W W' := by
  obtain ⟨i6, hi6, ha6, hb6, hc6⟩ := qinfo infoI1
  have H : Hid (DpW W pd t ∧ t.size ≤ 8192 ∧ (∀ i, dpN t i ≤ 8192)) := ⟨hd, hsz, fun i => Nat.le_trans (dpN_le t i) hsz⟩
  clear hd hsz
  generalize hT : t.size = n
  have HT : Hid (t.size = n) := hT
  clear hT
  go_enter Try.func11, Try.ntmps11
  go_wp2_with fail
  go_loopw [3, 4] (fun v x wr => ∃ (i : Nat) (S : List Nat), x = .int .i64 (i : Int) ∧ i ≤ n ∧ NL wr W.heap.size v S ∧ S.length ≤ i ∧ StkRun S (((t.spots 0).map Prod.snd).drop i) (upto 0 t.rs) ∧ Below W.heap.size W wr) (fun _ x _ => n - (intOf x).toNat)
  case atStart => exact ⟨0, [], rfl, Nat.zero_le _, ⟨⟨none, 0, rfl⟩, Own.nil0⟩, Nat.le_refl _, by simpa using stkRun_tree t 0 [] (fun x hx => (by cases hx)), Below.refl _ _⟩
  case round =>
    obtain ⟨w0, hw0⟩ : ∃ w0, w0 = wr := ⟨wr, rfl⟩
    subst hw0
    obtain ⟨i, S, rfl, hin, hNL, hSl, hrun, hbr⟩ := hrel
    by_cases hlt : i < n
    · have hlt2 : i < t.size := by rw [HT.out]; exact hlt
      rw [ds_drop hlt2] at hrun
      obtain ⟨S', m, eS, hS', hrun2⟩ := hrun
      obtain ⟨b, rfl, hbl, hcl⟩ := H.out.1.resolve_left (by omega)
      have x0 := (cell_below (a := ⟨b, i, none⟩) hbr hbl).trans (hcl i hlt2)
      have hdn := H.out.2.2 i
      have d1 : decide ((i : Int) < (n : Int)) = true := by simp; omega
      have d2 : decide (i < n) = true := by simp; omega
      have i0 : (0 : Int) ≤ (i : Int) := by omega
      have i1 : (i : Int) < (n : Int) := by omega
      have HO : Hid (S = S' ++ upto (dpN t i + 1) m ∧ (∀ x ∈ S', x < dpN t i) ∧ StkRun (S' ++ [dpN t i]) (((t.spots 0).map Prod.snd).drop (i + 1)) (upto 0 t.rs) ∧ Below W.heap.size W w0 ∧ b < W.heap.size ∧ (∀ i, i < t.size → W.cell? ⟨b, i, none⟩ = some (.int .i64 (dpN t i : Int))) ∧ S.length ≤ i ∧ i < n ∧ n ≤ 8192 ∧ dpN t i ≤ 8192) := ⟨eS, hS', hrun2, hbr, hbl, hcl, hSl, hlt, by rw [← HT.out]; exact H.out.2.1, hdn⟩
      obtain ⟨⟨p, c, rfl⟩, hOwn⟩ := hNL
      have hN0 : NL w0 W.heap.size (.slice p S.length c) S := ⟨⟨p, c, rfl⟩, hOwn⟩
      have HN0 : Hid (NL w0 W.heap.size (.slice p S.length c) S) := hN0
      have dneg : decide ((dpN t i : Int) < 0) = false := by simp
      generalize hdp : dpN t i = d at *
      have HDP : Hid (dpN t i = d) := hdp
      generalize hsl : S.length = sl at *
      have HSL : Hid (S.length = sl) := hsl
      have HT3 : Hid (t.size = n) := HT.out
      clear HT
      clear hrun2 hS' eS hbr hbl hcl hSl hlt hdn hOwn hN0 hdp hsl hlt2
      have hm := meas0 (show i < n from HO.out.2.2.2.2.2.2.2.1)
      go_wp2_with fail
      go_loopw [3, 5] (fun v y w => ∃ (m' : Nat), m' ≤ m ∧ y = .int .i64 (lastV d m m') ∧ NL w W.heap.size v (S' ++ upto (d + 1) m') ∧ Below w0.heap.size w0 w) (fun v _ _ => slLen v)
      case atStart =>
        refine ⟨m, Nat.le_refl _, by simp [lastV], ?_, Below.refl _ _⟩
        have h := HN0.out
        rw [HO.out.1] at h
        exact h
      case round =>
        obtain ⟨m', hm', rfl, hN, hb⟩ := hrel
        generalize hC : S' ++ upto (d + 1) m' = C at *
        have hN9 := hN
        obtain ⟨⟨p2, c2, rfl⟩, -⟩ := hN9
        generalize hk : C.length = k at *
        have HT2 : Hid (t.size = n) := HT3.out
        have HK8 : Hid (k ≤ 8192) := by show k ≤ 8192; have h1 := congrArg List.length hC; have h2 := congrArg List.length HO.out.1; rw [List.length_append, upto_len] at h1 h2; have h3 := HO.out.2.2.2.2.2.2; have h4 := HSL.out; omega
        by_cases hk0 : k = 0
        · have hC0 : C = S' := by
            have h1 : C = [] := List.eq_nil_of_length_eq_zero (by omega)
            have h2 := List.append_eq_nil_iff.1 (hC.trans h1)
            rw [h1, h2.1]
          have hm0 : m' = 0 := by
            have h1 := congrArg List.length hC
            rw [List.length_append, upto_len] at h1
            omega
          subst hm0
          have dk : decide ((0 : Int) < (k : Int)) = false := by simp; omega
          have dk2 : decide (0 < k) = false := by simp; omega
          go_wp2_with fail
          go_quiet (fail)
          generalize hw5 : World.drewN wr _ = w5
          have hb5 : Below wr.heap.size wr w5 := by rw [← hw5]; exact below_drewNq _ _ _
          clear hw5 dk dk2 hk0
          have hS5 : NL w5 W.heap.size (.slice p2 k c2) S' := by
            have h := hN.later hb5
            rw [hC0] at h
            exact h
          have hk9 : S'.length = k := by rw [← hC0]; exact hk
          have HS5 : Hid (NL w5 W.heap.size (.slice p2 k c2) S' ∧ S'.length = k ∧ Below w0.heap.size w0 w5 ∧ W.heap.size ≤ w5.heap.size) := ⟨hS5, hk9, hb.trans (hb5.mono hb.size), Nat.le_trans HO.out.2.2.2.1.size (hb.trans (hb5.mono hb.size)).size⟩
          have z0 := (cell_below (a := ⟨b, i, none⟩) (HO.out.2.2.2.1.trans (HS5.out.2.2.1.mono HO.out.2.2.2.1.size)) HO.out.2.2.2.2.1).trans (HO.out.2.2.2.2.2.1 i (by have := HO.out; rw [HT2.out]; omega))
          rw [HDP.out] at z0
          have HA : Hid (∀ j u, ([.int .i64 (d : Int)] : List Value)[j]? = some u → (w5.alloc (.cells #[.int .i64 (d : Int)] 3)).cell? ((⟨w5.heap.size, 0, none⟩ : Addr).add j) = some u) := fun j u hj => cells_new w5 [.int .i64 (d : Int)] 3 j u hj
          have HO2 : Hid ((w5.alloc (.cells #[.int .i64 (d : Int)] 3)).ownsRow W.heap.size 3 1 (.slice p2 k c2) k (cellsF (lF S') (k * 1))) := by
            have h := HS5.out.1.2.later ((Below.refl _ w5).alloc (Nat.le_refl _) (.cells #[.int .i64 (d : Int)] 3))
            rw [HS5.out.2.1] at h
            exact h
          have HB2 : Hid (W.heap.size ≤ (w5.alloc (.cells #[.int .i64 (d : Int)] 3)).heap.size) := by
            show _ ≤ (World.alloc w5 _).heap.size
            rw [World.size_alloc]
            have := HS5.out.2.2.2
            omega
          have q1 : k + 1 ≤ maxLen := by unfold maxLen; have := HK8.out; omega
          have q2 : (k + 1) * 8 ≤ 140737488355328 := by have := HK8.out; omega
          have ei : IntKind.i64.wrap ((i : Int) + 1) = ((i + 1 : Nat) : Int) := by have := HO.out; rw [IntKind.wrap_i64]; omega
          have ed : IntKind.i64.wrap ((d : Int) + 1) = ((d + 1 : Nat) : Int) := by have := HO.out; rw [IntKind.wrap_i64]; omega
          have FIN : Hid (∀ (v' : Value) (wr' : World), wr'.ownsRow W.heap.size 3 1 v' (k + 1) (cellsF (lF S') k ++ [.int .i64 (d : Int)]) → (w5.alloc (.cells #[.int .i64 (d : Int)] 3)).grownBy wr' (Value.slice p2 k c2).ownBlock → NL wr' W.heap.size v' (S' ++ [d]) ∧ Below W.heap.size W wr') := fun v' wr' hown hgr => by
            have h2 := HS5.out
            rw [show cellsF (lF S') k = cellsF (lF S') (k * 1) by rw [Nat.mul_one], ← h2.2.1] at hown
            obtain ⟨p9, c9, e9, o9⟩ := lrow hown
            refine ⟨⟨⟨p9, c9, e9⟩, o9⟩, ?_⟩
            have B5 := HO.out.2.2.2.1.trans (h2.2.2.1.mono HO.out.2.2.2.1.size)
            exact (B5.alloc B5.size _).grown hgr HB2.out (fun r hr => (Own.lt h2.1.2 r hr).1)
          clear hS5 hN hb hb5 hC0 hC hk hk9
          by_cases hm9 : m = 0
          · have el : lastV d m 0 = -1 := by unfold lastV; rw [if_pos (by omega)]
            rw [el]
            clear el
            go_wp2_with (at_builtin; refine wpList_append_own_at _ rfl _ _ 33 rfl W.heap.size 3 i6 _ 1 8 Try.underlying33 hi6 ha6 hb6 hc6 rfl (by decide) (.slice p2 k c2) k _ rfl HO2.out ⟨w5.heap.size, 0, none⟩ 1 1 [.int .i64 (d : Int)] rfl rfl HA.out (by simp [Value.oneCell']) q1 q2 HB2.out ?_)
            intro v' w6 hown hgr hnil hat
            obtain ⟨f1, f2⟩ := FIN.out v' w6 hown hgr
            clear hown hgr hnil hat
            go_wp2_with fail
            exact ⟨⟨i + 1, S' ++ [d], rfl, by have := HO.out; omega, f1, by have h9 := HO.out.2.2.2.2.2.2; have h8 := HS5.out.2.1; have h7 := congrArg List.length HO.out.1; have h6 := HSL.out; rw [List.length_append] at h7; rw [List.length_append, List.length_singleton]; omega, HO.out.2.2.1, f2⟩, hm⟩
          · have el : lastV d m 0 = ((d + 1 : Nat) : Int) := by unfold lastV; rw [if_neg (by omega)]; omega
            rw [el]
            clear el
            have dg : decide ((0 : Int) ≤ ((d + 1 : Nat) : Int)) = true := by simp; omega
            have dq : decide (((d + 1 : Nat) : Int) = ((d + 1 : Nat) : Int)) = true := by simp
            generalize hd1 : d + 1 = d' at *
            go_wp2_with (at_builtin; refine wpList_append_own_at _ rfl _ _ 33 rfl W.heap.size 3 i6 _ 1 8 Try.underlying33 hi6 ha6 hb6 hc6 rfl (by decide) (.slice p2 k c2) k _ rfl HO2.out ⟨w5.heap.size, 0, none⟩ 1 1 [.int .i64 (d : Int)] rfl rfl HA.out (by simp [Value.oneCell']) q1 q2 HB2.out ?_)
            intro v' w6 hown hgr hnil hat
            obtain ⟨f1, f2⟩ := FIN.out v' w6 hown hgr
            clear hown hgr hnil hat
            go_wp2_with fail
            exact ⟨⟨i + 1, S' ++ [d], rfl, by have := HO.out; omega, f1, by have h9 := HO.out.2.2.2.2.2.2; have h8 := HS5.out.2.1; have h7 := congrArg List.length HO.out.1; have h6 := HSL.out; rw [List.length_append] at h7; rw [List.length_append, List.length_singleton]; omega, HO.out.2.2.1, f2⟩, hm⟩
        · obtain ⟨b2, c3, e2, hb2, hl2, hkc, hcs⟩ := hN.row (by omega)
          rw [hk] at e2
          injection e2 with e3 e4 e5
          subst e3 e5
          have hx0 := hcs (k - 1) (by omega)
          have dk : decide ((0 : Int) < (k : Int)) = true := by simp; omega
          have dk2 : decide (0 < k) = true := by simp; omega
          have ek : IntKind.i64.wrap ((k : Int) - 1) = ((k - 1 : Nat) : Int) := by rw [IntKind.wrap_i64]; have := HK8.out; omega
          have j0 : (0 : Int) ≤ ((k - 1 : Nat) : Int) := by omega
          have j1 : ((k - 1 : Nat) : Int) < (k : Int) := by omega
          have z1 := (cell_below (a := ⟨b, i, none⟩) (HO.out.2.2.2.1.trans (hb.mono HO.out.2.2.2.1.size)) HO.out.2.2.2.2.1).trans (HO.out.2.2.2.2.2.1 i (by have := HO.out; rw [HT2.out]; omega))
          rw [HDP.out] at z1
          by_cases hm0 : m' = 0
          · subst hm0
            have hC0 : C = S' := by rw [← hC]; simp [upto]
            have hxl : C.getD (k - 1) 0 < d := by
              refine HO.out.2.1 _ ?_
              rw [← hC0, List.getD_eq_getElem?_getD, List.getElem?_eq_getElem (by omega)]
              exact List.getElem_mem _
            generalize C.getD (k - 1) 0 = x at *
            have dx : decide ((d : Int) ≤ (x : Int)) = false := by simp; omega
            have dx2 : decide (d ≤ x) = false := by simp; omega
            go_wp2_with fail
            go_quiet (fail)
            generalize hw5 : World.drewN wr _ = w5
            have hb5 : Below wr.heap.size wr w5 := by rw [← hw5]; exact below_drewNq _ _ _
            clear hw5 dk dk2 hk0 dx dx2 ek j0 j1 hx0 hxl hcs hkc hl2 hb2 z1
            have hS5 : NL w5 W.heap.size (.slice (some ⟨b2, 0, none⟩) k c2) S' := by
              have h := hN.later hb5
              rw [hC0] at h
              exact h
            have hk9 : S'.length = k := by rw [← hC0]; exact hk
            have HS5 : Hid (NL w5 W.heap.size (.slice (some ⟨b2, 0, none⟩) k c2) S' ∧ S'.length = k ∧ Below w0.heap.size w0 w5 ∧ W.heap.size ≤ w5.heap.size) := ⟨hS5, hk9, hb.trans (hb5.mono hb.size), Nat.le_trans HO.out.2.2.2.1.size (hb.trans (hb5.mono hb.size)).size⟩
            have z0 := (cell_below (a := ⟨b, i, none⟩) (HO.out.2.2.2.1.trans (HS5.out.2.2.1.mono HO.out.2.2.2.1.size)) HO.out.2.2.2.2.1).trans (HO.out.2.2.2.2.2.1 i (by have := HO.out; rw [HT2.out]; omega))
            rw [HDP.out] at z0
            have HA : Hid (∀ j u, ([.int .i64 (d : Int)] : List Value)[j]? = some u → (w5.alloc (.cells #[.int .i64 (d : Int)] 3)).cell? ((⟨w5.heap.size, 0, none⟩ : Addr).add j) = some u) := fun j u hj => cells_new w5 [.int .i64 (d : Int)] 3 j u hj
            have HO2 : Hid ((w5.alloc (.cells #[.int .i64 (d : Int)] 3)).ownsRow W.heap.size 3 1 (.slice (some ⟨b2, 0, none⟩) k c2) k (cellsF (lF S') (k * 1))) := by
              have h := HS5.out.1.2.later ((Below.refl _ w5).alloc (Nat.le_refl _) (.cells #[.int .i64 (d : Int)] 3))
              rw [HS5.out.2.1] at h
              exact h
            have HB2 : Hid (W.heap.size ≤ (w5.alloc (.cells #[.int .i64 (d : Int)] 3)).heap.size) := by
              show _ ≤ (World.alloc w5 _).heap.size
              rw [World.size_alloc]
              have := HS5.out.2.2.2
              omega
            have q1 : k + 1 ≤ maxLen := by unfold maxLen; have := HK8.out; omega
            have q2 : (k + 1) * 8 ≤ 140737488355328 := by have := HK8.out; omega
            have ei : IntKind.i64.wrap ((i : Int) + 1) = ((i + 1 : Nat) : Int) := by have := HO.out; rw [IntKind.wrap_i64]; omega
            have ed : IntKind.i64.wrap ((d : Int) + 1) = ((d + 1 : Nat) : Int) := by have := HO.out; rw [IntKind.wrap_i64]; omega
            have FIN : Hid (∀ (v' : Value) (wr' : World), wr'.ownsRow W.heap.size 3 1 v' (k + 1) (cellsF (lF S') k ++ [.int .i64 (d : Int)]) → (w5.alloc (.cells #[.int .i64 (d : Int)] 3)).grownBy wr' (Value.slice (some ⟨b2, 0, none⟩) k c2).ownBlock → NL wr' W.heap.size v' (S' ++ [d]) ∧ Below W.heap.size W wr') := fun v' wr' hown hgr => by
              have h2 := HS5.out
              rw [show cellsF (lF S') k = cellsF (lF S') (k * 1) by rw [Nat.mul_one], ← h2.2.1] at hown
              obtain ⟨p9, c9, e9, o9⟩ := lrow hown
              refine ⟨⟨⟨p9, c9, e9⟩, o9⟩, ?_⟩
              have B5 := HO.out.2.2.2.1.trans (h2.2.2.1.mono HO.out.2.2.2.1.size)
              exact (B5.alloc B5.size _).grown hgr HB2.out (fun r hr => (Own.lt h2.1.2 r hr).1)
            clear hS5 hN hb hb5 hC0 hC hk hk9
            by_cases hm9 : m = 0
            · have el : lastV d m 0 = -1 := by unfold lastV; rw [if_pos (by omega)]
              rw [el]
              clear el
              go_wp2_with (at_builtin; refine wpList_append_own_at _ rfl _ _ 33 rfl W.heap.size 3 i6 _ 1 8 Try.underlying33 hi6 ha6 hb6 hc6 rfl (by decide) (.slice (some ⟨b2, 0, none⟩) k c2) k _ rfl HO2.out ⟨w5.heap.size, 0, none⟩ 1 1 [.int .i64 (d : Int)] rfl rfl HA.out (by simp [Value.oneCell']) q1 q2 HB2.out ?_)
              intro v' w6 hown hgr hnil hat
              obtain ⟨f1, f2⟩ := FIN.out v' w6 hown hgr
              clear hown hgr hnil hat
              go_wp2_with fail
              exact ⟨⟨i + 1, S' ++ [d], rfl, by have := HO.out; omega, f1, by have h9 := HO.out.2.2.2.2.2.2; have h8 := HS5.out.2.1; have h7 := congrArg List.length HO.out.1; have h6 := HSL.out; rw [List.length_append] at h7; rw [List.length_append, List.length_singleton]; omega, HO.out.2.2.1, f2⟩, hm⟩
            · have el : lastV d m 0 = ((d + 1 : Nat) : Int) := by unfold lastV; rw [if_neg (by omega)]; omega
              rw [el]
              clear el
              have dg : decide ((0 : Int) ≤ ((d + 1 : Nat) : Int)) = true := by simp; omega
              have dq : decide (((d + 1 : Nat) : Int) = ((d + 1 : Nat) : Int)) = true := by simp
              generalize hd1 : d + 1 = d' at *
              go_wp2_with (at_builtin; refine wpList_append_own_at _ rfl _ _ 33 rfl W.heap.size 3 i6 _ 1 8 Try.underlying33 hi6 ha6 hb6 hc6 rfl (by decide) (.slice (some ⟨b2, 0, none⟩) k c2) k _ rfl HO2.out ⟨w5.heap.size, 0, none⟩ 1 1 [.int .i64 (d : Int)] rfl rfl HA.out (by simp [Value.oneCell']) q1 q2 HB2.out ?_)
              intro v' w6 hown hgr hnil hat
              obtain ⟨f1, f2⟩ := FIN.out v' w6 hown hgr
              clear hown hgr hnil hat
              go_wp2_with fail
              exact ⟨⟨i + 1, S' ++ [d], rfl, by have := HO.out; omega, f1, by have h9 := HO.out.2.2.2.2.2.2; have h8 := HS5.out.2.1; have h7 := congrArg List.length HO.out.1; have h6 := HSL.out; rw [List.length_append] at h7; rw [List.length_append, List.length_singleton]; omega, HO.out.2.2.1, f2⟩, hm⟩
          · obtain ⟨m1, hm1⟩ : ∃ m1, m' = m1 + 1 := ⟨m' - 1, by omega⟩
            have hC1 : C = (S' ++ upto (d + 1) m1) ++ [d + m'] := by
              rw [← hC, hm1, upto_snoc, List.append_assoc, show d + 1 + m1 = d + (m1 + 1) by omega]
            have hxe : C.getD (k - 1) 0 = d + m' := by
              have h1 := congrArg List.length hC1
              rw [List.length_append, List.length_singleton] at h1
              rw [hC1, List.getD_eq_getElem?_getD, List.getElem?_append_right (by omega)]
              rw [show k - 1 - (S' ++ upto (d + 1) m1).length = 0 by omega]
              rfl
            rw [hxe] at hx0
            have hx9 : Hid (d + m' ≤ 30000) := by show d + m' ≤ 30000; have h9 := HO.out.2.2.2.2.2.2; have h7 := congrArg List.length HO.out.1; have h6 := HSL.out; rw [List.length_append, upto_len] at h7; omega
            have hcut := hN
            rw [← hk] at hcut
            have hcut2 := hcut.cut hC1
            rw [hk] at hcut2
            have dx : decide ((d : Int) ≤ ((d + m' : Nat) : Int)) = true := by simp; omega
            have dx2 : decide (d ≤ d + m') = true := by simp
            have HX : Hid (NL wr W.heap.size (.slice (some ⟨b2, 0, none⟩) (k - 1) c2) (S' ++ upto (d + 1) m1) ∧ Below w0.heap.size w0 wr ∧ m' = m1 + 1 ∧ m1 ≤ m ∧ 0 < k ∧ k - 1 ≤ k ∧ lastV d m m1 = ((d + m' : Nat) : Int)) := ⟨hcut2, hb, hm1, by omega, by omega, by omega, by unfold lastV; rw [if_neg (by omega)]; omega⟩
            have hlv : lastV d m m' = -1 ∨ lastV d m m' = ((d + m' + 1 : Nat) : Int) := by
              unfold lastV
              split
              · exact .inl rfl
              · exact .inr (by omega)
            have eu : IntKind.i64.wrap (((d + m' + 1 : Nat) : Int) - 1) = ((d + m' : Nat) : Int) := by have := hx9.out; rw [IntKind.wrap_i64]; omega
            have du : decide ((0 : Int) ≤ ((d + m' + 1 : Nat) : Int)) = true := by simp; omega
            have s0 : (0 : Int) ≤ ((k - 1 : Nat) : Int) := by omega
            have s1 : ((k - 1 : Nat) : Int) ≤ (c2 : Int) := by omega
            have s2 : (0 : Int) ≤ (c2 : Int) := by omega
            clear hC1 hxe hcut hcut2 hN hb hC hk hm' hm0 hm1 hkc hcs hb2
            generalize d + m' + 1 = u1 at *
            generalize d + m' = u at *
            go_wp2_with fail
            go_quiet (fail)
            generalize hw5 : World.drewN wr _ = w5
            have hb5 : Below wr.heap.size wr w5 := by rw [← hw5]; exact below_drewNq _ _ _
            have hy0 := (cell_below (a := ⟨b2, k - 1, none⟩) hb5 hl2).trans hx0
            have HB5 : Hid (Below wr.heap.size wr w5) := hb5
            clear hw5 hb5 z1 hx0
            rcases hlv with e | e
            · rw [e]
              clear e
              go_wp2_with fail
              exact ⟨⟨m1, HX.out.2.2.2.1, by rw [HX.out.2.2.2.2.2.2], HX.out.1.later HB5.out, HX.out.2.1.trans (HB5.out.mono HX.out.2.1.size)⟩, by simp only [slLen]; have := HX.out; omega⟩
            · rw [e]
              clear e
              go_wp2_with fail
              exact ⟨⟨m1, HX.out.2.2.2.1, by rw [HX.out.2.2.2.2.2.2], HX.out.1.later HB5.out, HX.out.2.1.trans (HB5.out.mono HX.out.2.1.size)⟩, by simp only [slLen]; have := HX.out; omega⟩
    · have hge : ¬ i < t.size := by rw [HT.out]; exact hlt
      rw [ds_end hge] at hrun
      have hS0 : upto 0 t.rs = S := hrun
      have d1 : decide ((i : Int) < (n : Int)) = false := by simp; omega
      have d2 : decide (i < n) = false := by simp; omega
      generalize t.rs = r at *
      subst hS0
      rw [upto_len] at hSl
      obtain ⟨⟨p, c, rfl⟩, hOwn⟩ := hNL
      rw [upto_len] at *
      have HN : Hid (NL w0 W.heap.size (.slice p r c) (upto 0 r) ∧ Below W.heap.size W w0 ∧ r ≤ 8192) := ⟨⟨⟨p, c, by rw [upto_len]⟩, by rw [upto_len]; exact hOwn⟩, hbr, by have := H.out.2.1; have := HT.out; omega⟩
      clear hOwn hbr hge hlt hrun
      go_wp2_with fail
      go_loopw [6] (fun x w => ∃ k : Nat, x = .int .i64 (k : Int) ∧ k ≤ r ∧ w = w0) (fun x _ => r - (intOf x).toNat)
      case atStart => exact ⟨0, rfl, Nat.zero_le _, rfl⟩
      case round =>
        obtain ⟨k, rfl, hk, rfl⟩ := hrel
        by_cases hlt : k < r
        · obtain ⟨b2, c3, e2, hb2, hl2, hkc, hcs⟩ := HN.out.1.row (by rw [upto_len]; omega)
          rw [upto_len] at e2
          injection e2 with e3 e4 e5
          subst e3 e5
          have z0 := hcs k (by rw [upto_len]; exact hlt)
          rw [upto_D hlt, Nat.zero_add] at z0
          have j0 : (0 : Int) ≤ (k : Int) := by omega
          have j1 : (k : Int) < (r : Int) := by omega
          have dk : decide ((k : Int) < (r : Int)) = true := by simp; omega
          have dk2 : decide (k < r) = true := by simp; omega
          have ek : IntKind.i64.wrap ((k : Int) + 1) = ((k + 1 : Nat) : Int) := by have := HN.out.2.2; rw [IntKind.wrap_i64]; omega
          have hm := meas0 hlt
          go_wp2_with fail
          exact ⟨⟨k + 1, rfl, by omega, trivial⟩, hm⟩
        · have dk : decide ((k : Int) < (r : Int)) = false := by simp; omega
          have dk2 : decide (k < r) = false := by simp; omega
          go_wp2_with fail
          go_ret
          exact ⟨rfl, HN.out.2.1⟩
end Go.Proofs.Ytlklolmhaiaaiaa
