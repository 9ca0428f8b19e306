import Derived.Test.YtlklolmhaiaaiaaKY23
namespace Go.Proofs.Ytlklolmhaiaaiaa
open Go.ChangeShapes Go.WideShapes Go.ChangeAt Go.RowKit
set_option linter.unusedVariables false
set_option linter.unusedSimpArgs false

/-- a tree cut at a time -/
theorem cutT {W : World} {base qb g c n : Nat} {A : Ar} {t : Tr} {fl : List Nat} {root : Nat} {room work : Int} (h : QI W base qb g c n A t fl root room work) (u : Int) :
    (openT (sdT u A.E) t).m = 0 ∧ t.ps = (openT (sdT u A.E) t).a.ps ++ (openT (sdT u A.E) t).b.ps ∧ (∀ p ∈ (openT (sdT u A.E) t).a.ps, (A.E p).t < u) ∧ ∀ p ∈ (openT (sdT u A.E) t).b.ps, u ≤ (A.E p).t := by
  have hps := openT_ps (side_sdT u A.E) t.size t (Nat.le_refl _) h.neT
  obtain ⟨hs1, hs2, hs3⟩ := openT_side (s := fun p => if u ≤ (A.E p).t then 0 else 1) (side_sdT u A.E) (fun _ _ _ => rfl) t.size t (Nat.le_refl _) h.neT (h.srt.imp fun {p q} h9 => by
    have h8 := (keyCmp_lt _ _ _ _ _ _).1 h9
    by_cases h7 : u ≤ (A.E q).t
    · exact .inr (if_pos h7)
    · exact .inl (if_neg (by omega)))
  have hm : (openT (sdT u A.E) t).m = 0 := by
    by_cases h9 : (openT (sdT u A.E) t).m = 0
    · exact h9
    · have h8 := hs3 h9
      split at h8 <;> omega
  rw [hm, mid0, List.append_nil] at hps
  refine ⟨hm, hps.symm, fun p hp => ?_, fun p hp => ?_⟩
  · have h8 := hs1 p hp
    split at h8
    · omega
    · omega
  · have h8 := hs2 p hp
    split at h8
    · assumption
    · omega
/-- what is left when b is cut off and its places are free -/
theorem cutQ {W W' : World} {base qb g c n : Nat} {A A2 A' : Ar} {t a b : Tr} {fl : List Nat} {root ra : Nat} {room work work' : Int} (h : QI W base qb g c n A t fl root room work) (hps : t.ps = a.ps ++ b.ps) (hE : A2.E = A.E) (hla : a.lies A2.L A2.R ra) (hout : ∀ p, p ∉ t.ps → A2.L p = A.L p ∧ A2.R p = A.R p) (ho : ∀ p, p ∉ b.ps → A'.E p = A2.E p ∧ A'.L p = A2.L p ∧ A'.R p = A2.R p) (hf : FLs A'.L (b.ps.reverse ++ fl)) (hq : QW W' base qb g c n A' (((b.ps.reverse ++ fl).headD 0 : Nat) : Int) ra ((t.size - b.size : Nat) : Int) room work') (hw : 0 ≤ work') :
    QI W' base qb g c n A' a (b.ps.reverse ++ fl) ra room work' ∧ a.ps.map A'.E = a.ps.map A.E := by
  have hsz : t.size = a.size + b.size := by
    have := congrArg List.length hps
    rw [List.length_append, Tr.size_ps, Tr.size_ps, Tr.size_ps] at this
    exact this
  have hnd := h.ndT
  rw [hps] at hnd
  have hnd2 := List.nodup_append.1 hnd
  have hnb : ∀ p ∈ a.ps, p ∉ b.ps := fun p hp hp2 => hnd2.2.2 p hp p hp2 rfl
  have h0 : (0 : Nat) ∉ t.ps := fun hq => h.neT 0 hq rfl
  have h0b : (0 : Nat) ∉ b.ps := fun h9 => h0 (by rw [hps]; simp [h9])
  refine ⟨⟨?_, ?_, hf, ?_, ?_, ?_, ?_, h.nr, h.rm, ?_, hw⟩, List.map_congr_left fun q hq => by rw [(ho q (hnb q hq)).1, hE]⟩
  · rw [show ((a.size : Nat) : Int) = ((t.size - b.size : Nat) : Int) by omega]
    exact hq
  · exact Tr.lies_congr hla fun q hq => (ho q (hnb q hq)).2
  · have h9 := h.nd
    rw [hps, List.append_assoc] at h9
    refine (List.Perm.nodup_iff ?_).1 h9
    exact List.Perm.append_left _ (List.Perm.append_right _ (List.reverse_perm _).symm)
  · intro p hp
    refine h.inr p ?_
    rw [hps]
    simp only [List.mem_append, List.mem_reverse] at hp ⊢
    rcases hp with h9 | h9 | h9
    · exact .inl (.inl h9)
    · exact .inl (.inr h9)
    · exact .inr h9
  · have := h.cnt
    rw [List.length_append, List.length_reverse, Tr.size_ps]
    omega
  · rw [(ho 0 h0b).2.1, (ho 0 h0b).2.2, (hout 0 h0).1, (hout 0 h0).2]
    exact h.z
  · have hs := h.srt
    rw [hps] at hs
    have h8 := (List.pairwise_append.1 hs).1
    exact h8.imp_of_mem fun {x y} hx hy h2 => by rw [(ho x (hnb x hx)).1, (ho y (hnb y hy)).1, hE]; exact h2
end Go.Proofs.Ytlklolmhaiaaiaa
namespace Go.Proofs.Ytlklolmhaiaaiaa
open Go.ChangeShapes Go.WideShapes Go.ChangeAt Go.RowKit
set_option linter.unusedVariables false
set_option linter.unusedSimpArgs false
set_option maxRecDepth 100000 in
set_option maxHeartbeats 4000000 in
theorem split_any (base qb g c n : Nat) (A : Ar) (t : Tr) (fl : List Nat) (root : Nat) (room work : Int) (u : Int) (W : World) (h : QI W base qb g c n A t fl root room work) (hwk2 : work ≤ 4611686018427387904) :
    Calls Try.prog 17 #[.pointer (some ⟨qb, 0, none⟩), .int .u64 u] W fun e' W' => ∃ (b : Nat) (A' : Ar) (fl' : List Nat) (root' : Nat), e' = .returned (.slice (some ⟨b, 0, none⟩) (openT (sdT u A.E) t).b.size (openT (sdT u A.E) t).b.size) ∧ Own W' W.heap.size 64 6 (.slice (some ⟨b, 0, none⟩) (openT (sdT u A.E) t).b.size (openT (sdT u A.E) t).b.size) (openT (sdT u A.E) t).b.size (evF A.E ((openT (sdT u A.E) t).b.spots 0)) ∧ QI W' base qb g c n A' (openT (sdT u A.E) t).a fl' root' room (work + (openT (sdT u A.E) t).k) ∧ (openT (sdT u A.E) t).a.ps.map A'.E = (openT (sdT u A.E) t).a.ps.map A.E ∧ Ch (S2 qb g) W W' := by
  obtain ⟨W1, hW1⟩ : ∃ W1, W.alloc (.cells #[.pointer (some ⟨qb, 0, none⟩)] 23) = W1 := ⟨_, rfl⟩
  have hb1 : Below W.heap.size W W1 := by rw [← hW1]; exact (Below.refl _ W).alloc (Nat.le_refl _) _
  have hP1 : PBx W1 W.heap.size qb := by unfold PBx; rw [← hW1]; exact World.alloc_heap_new W _
  have HW : Hid (W.alloc (.cells #[.pointer (some ⟨qb, 0, none⟩)] 23) = W1) := hW1
  have hQ1 := h.q.later hb1
  have hlt := h.q.lt
  have hn1 := h.n1
  have hwk := h.wk
  have hl1 := lt_of_block hP1
  obtain ⟨hm, hps, hta, htb⟩ := cutT h u
  have hk9 := openT_k _ (side_sdT u A.E) t.size t (Nat.le_refl _)
  obtain ⟨q0, q1, q2, q3, q4, q5⟩ := hQ1.cells
  have p0 := hP1.cell
  have HT := toTime_any qb u W1.drew
  rw [show W1.drew.heap.size = W1.heap.size from rfl] at HT
  clear hW1
  go_enter Try.func17, Try.ntmps17
  go_wp2_with fail
  rw [HW.out]
  go_region_held3 (fun W9 => W9.cell? ⟨W.heap.size, 0, none⟩ = some (.pointer (some ⟨qb, 0, none⟩)) ∧ W9.cell? ⟨qb, 2, none⟩ = some (.int .i64 (root : Int))) (first | exact KP | go_keep) (first | (go_at_call 47; (with_reducible refine HT.mono ?_); rintro e w2 ⟨rfl, hT2, hP2, hb2⟩; have hQ2 := hQ1.later (W' := w2) ((below_drewNq _ W1 1).trans hb2); have hPB2 : PBx w2 W.heap.size qb := (hb2.block _ hl1).trans hP1; have KP : w2.cell? ⟨W.heap.size, 0, none⟩ = some (.pointer (some ⟨qb, 0, none⟩)) ∧ w2.cell? ⟨qb, 2, none⟩ = some (.int .i64 (root : Int)) := ⟨hPB2.cell, hQ2.cells.2.2.1⟩) | (go_at_call 46; refine (open_any 69 #[.pointer (some ⟨W1.heap.size, 0, none⟩), .pointer (some ⟨W1.heap.size + 1, 0, none⟩)] enterT base qb g c n A _ _ _ _ _ (sdT u A.E) (side_sdT u A.E) t root w2 hQ2 hn1.2.1 hn1.1 h.ti h.ndT h.inT h.z ⟨hwk, hwk2⟩ hn1.2.2 (wayT hT2 hP2 (by omega) (by omega) hn1.2.1)).mono ?_; rintro e w3 ⟨A3, ra, rb, rfl, hQ3, hE3, hla, hlb, hout, hC3⟩; have hPB3 : PBx w3 W.heap.size qb := (hC3.block _ (lt_of_block hPB2) (by rintro (e | e) <;> omega)).trans hPB2; clear KP; have KP : w3.cell? ⟨W.heap.size, 0, none⟩ = some (.pointer (some ⟨qb, 0, none⟩)) ∧ w3.cell? ⟨qb, 2, none⟩ = some (.int .i64 (root : Int)) := ⟨hPB3.cell, hQ3.cells.2.2.1⟩))
  have zf := own_frozen hQ3.box 2
  have hQ4 := hQ3.setRoot (ra : Int)
  have z0 := hPB3.cell
  have z2 := hQ3.cells.2.2.1
  go_upto_region 4 with fail
  have hsb : t.size = (openT (sdT u A.E) t).a.size + (openT (sdT u A.E) t).b.size := by
    have := congrArg List.length hps
    rw [List.length_append, Tr.size_ps, Tr.size_ps, Tr.size_ps] at this
    exact this
  have hbt : ∀ p ∈ (openT (sdT u A.E) t).b.ps, p ∈ t.ps := fun p hp => by rw [hps]; simp [hp]
  have hinb : ∀ p ∈ (openT (sdT u A.E) t).b.ps, p < n := fun p hp => h.inT p (hbt p hp)
  have hnd1 := h.nd
  rw [hps, List.append_assoc] at hnd1
  have hndb := (List.nodup_append.1 hnd1).2.1
  have hnd9 := List.nodup_append.1 h.nd
  have hfl3 : FLs A3.L fl := FLs.congr h.fr fun q hq => (hout q (fun h9 => hnd9.2.2 q h9 q hq rfl)).1
  obtain ⟨w4, hw4⟩ : ∃ w4, (w3.setCell ⟨qb, 2, none⟩ (.int .i64 (ra : Int))).alloc (.cells #[.slice none 0 0] 27) = w4 := ⟨_, rfl⟩
  have hs3 : (w3.setCell ⟨qb, 2, none⟩ (.int .i64 (ra : Int))).heap.size = w3.heap.size := by simp [World.setCell]
  have hbA : Below w3.heap.size (w3.setCell ⟨qb, 2, none⟩ (.int .i64 (ra : Int))) w4 := by rw [← hw4]; exact (Below.refl _ _).alloc (by rw [hs3]; exact Nat.le_refl _) _
  have hl4 : w4.heap[w3.heap.size]? = some (.cells #[.slice none 0 0] 27 (0, 0)) := by
    rw [← hw4]
    have := World.alloc_heap_new (w3.setCell ⟨qb, 2, none⟩ (.int .i64 (ra : Int))) (.cells #[.slice none 0 0] 27)
    rwa [hs3] at this
  have hl3 := lt_of_block hPB3
  have hl4' := lt_of_block hl4
  have hlt3 := hQ3.lt
  have hQ5 := hQ4.later (by rw [hs3]; exact hbA)
  have hPB4 : PBx w4 W.heap.size qb := (hbA.block _ hl3).trans ((Below.heap_setCell _ _ _ _ (show W.heap.size ≠ qb by omega)).trans hPB3)
  have hC4 : Ch (S2 qb g) w3 w4 := (Ch.set _ _ _ _ _ (.inl rfl)).trans (Ch.below (by rw [hs3]; exact hbA))
  have HW4 : Hid ((w3.setCell ⟨qb, 2, none⟩ (.int .i64 (ra : Int))).alloc (.cells #[.slice none 0 0] 27) = w4) := hw4
  rw [hw4]
  clear hw4
  have hJ0 : SJJ base W.heap.size qb g c n A3 fl (ra : Int) t.size room (work + (openT (sdT u A.E) t).k) w3.heap.size W.heap.size [] (LF qb g w3.heap.size W.heap.size (.slice none 0 0)) w4 := ⟨A3, _, ⟨hQ5, hPB4, hl4, Own.nil0, by omega, fun k9 e => (by cases e)⟩, rfl, by omega, fun p _ => ⟨rfl, rfl, rfl⟩, hfl3⟩
  have HV := walk_any 48 #[.pointer (some ⟨w3.heap.size, 0, none⟩), .pointer (some ⟨W.heap.size, 0, none⟩)] enterSp base qb g c n A3 (openT (sdT u A.E) t).b rb _ (seeSplit base W.heap.size qb g c n A3 fl (ra : Int) t.size room (work + (openT (sdT u A.E) t).k) w3.heap.size W.heap.size (openT (sdT u A.E) t).b hn1.2.1 hinb hndb ⟨by omega, hn1.2.2⟩) _ w4 hJ0 hn1.2.1 hlb (List.nodup_append.1 hndb).1 hinb (by omega)
  have p4 := hPB4.cell
  clear z0 z2 zf KP q0 q1 q2 q3 q4 q5 p0
  go_upto_region 5 with (go_at_call 24; (with_reducible refine HV.mono ?_); rintro e w5 ⟨rfl, F5, ⟨A5, lv, hL, hF5, hb5, ho5, hf5⟩, hfr5, hC5⟩)
  obtain ⟨gw, cw, hlv⟩ : ∃ gw cw, lv = .slice gw (openT (sdT u A.E) t).b.size cw := by
    rcases hL.row.form with ⟨h1, h2⟩ | ⟨g9, c9, h1, _⟩
    · rw [spots_len] at h2
      exact ⟨none, 0, by rw [h1, h2]⟩
    · rw [spots_len] at h1
      exact ⟨_, _, h1⟩
  subst hlv
  have d0 := one_c hL.l
  have hrow := hL.row
  rw [spots_len, hE3] at hrow
  have hsrc : (openT (sdT u A.E) t).b.size = 0 ∨ ∃ b o, gw = some ⟨b, o, none⟩ ∧ b < w5.heap.size ∧ ∀ j, j < (openT (sdT u A.E) t).b.size * 6 → w5.cell? ⟨b, o + j, none⟩ = some (evF A.E ((openT (sdT u A.E) t).b.spots 0) j) := by
    rcases hrow.form with ⟨_, h2⟩ | ⟨g9, c9, h1, h2, h3⟩
    · exact .inl h2
    · have h4 : gw = some ⟨g9, 0, none⟩ := by injection h1
      subst h4
      exact .inr ⟨g9, 0, rfl, h3, fun j hj => by rw [Nat.zero_add]; exact Own.cell (c := cw) hrow hj⟩
  have HH := q_handed gw (openT (sdT u A.E) t).b.size cw (evF A.E ((openT (sdT u A.E) t).b.spots 0)) w5 (by omega) (fun j => evC_one _ _ (Nat.mod_lt _ (by decide))) hsrc
  go_wp2_with (go_at_call 27; (with_reducible refine HH.mono ?_); rintro e w6 ⟨b, rfl, hO, hb6⟩)
  go_ret
  have hfS : flS ((openT (sdT u A.E) t).b.spots 0) fl = (openT (sdT u A.E) t).b.ps.reverse ++ fl := by unfold flS; rw [Tr.spots_ps]
  have hqL := hL.q.later hb6
  rw [hfS, spots_len] at hqL
  rw [hfS] at hf5
  rw [Tr.spots_ps] at ho5
  obtain ⟨r1, r2⟩ := cutQ h hps hE3 hla hout ho5 hf5 hqL (by omega)
  have hs6 := hC5.size
  have hcB : Ch (S2 qb g) W w4 := (((Ch.below hb1).trans (Ch.below ((below_drewNq _ W1 1).trans hb2))).trans hC3).trans hC4
  refine ⟨b, A5, _, ra, rfl, hO.lower hb5, r1, r2, ?_⟩
  refine ⟨hb6.os.trans (hC5.os.trans hcB.os), hb6.tape.trans (hC5.tape.trans hcB.tape), hb6.output.trans (hC5.output.trans hcB.output), Nat.le_trans hcB.size (Nat.le_trans hs6 hb6.size), fun j hj hs9 => (hb6.block j (Nat.lt_of_lt_of_le hj (Nat.le_trans hcB.size hs6))).trans ((hC5.block j (Nat.lt_of_lt_of_le hj hcB.size) ?_).trans (hcB.block j hj hs9))⟩
  have hw3s : W.heap.size ≤ w3.heap.size := by omega
  rintro (e | e | e | e | e)
  · exact hs9 (.inl e)
  · exact hs9 (.inr e)
  · omega
  · omega
  · cases e
end Go.Proofs.Ytlklolmhaiaaiaa
namespace Go.Proofs.Ytlklolmhaiaaiaa
open Go.ChangeShapes Go.WideShapes Go.ChangeAt Go.RowKit
set_option linter.unusedVariables false
set_option linter.unusedSimpArgs false

theorem splitS {base qb g : Nat} {room wb : Int} {L : List Ev} (u : Int) (W : World) (h : QS base qb g room wb L W) (hwb : wb ≤ 4611686018427387904) : Calls Try.prog 17 #[.pointer (some ⟨qb, 0, none⟩), .int .u64 u] W fun e' W' => ∃ b X L1 L2, e' = .returned (.slice (some ⟨b, 0, none⟩) L2.length L2.length) ∧ L = L1 ++ L2 ∧ EvsL W' b L2.length X ∧ (∀ i, i < L2.length → L2[i]? = some (X i)) ∧ W.heap.size ≤ b ∧ (∀ x ∈ L1, x.t < u) ∧ (∀ x ∈ L2, u ≤ x.t) ∧ QS base qb g room (wb + 8192) L1 W' ∧ Ch (S2 qb g) W W' := by
  obtain ⟨c, n, A, t, fl, root, work, hq, hLe, hw⟩ := h
  have hsz := hq.n1.2.2
  have hk9 := openT_k _ (side_sdT u A.E) t.size t (Nat.le_refl _)
  obtain ⟨hm, hps, hta, htb⟩ := cutT hq u
  refine (split_any base qb g c n A t fl root room work u W hq (by omega)).mono ?_
  rintro e' W' ⟨b, A', fl', root', rfl, hO, hq', hE, hC⟩
  have hsp : ((openT (sdT u A.E) t).b.spots 0).map Prod.fst = (openT (sdT u A.E) t).b.ps := Tr.spots_ps _ 0
  have el : ((openT (sdT u A.E) t).b.ps.map A.E).length = (openT (sdT u A.E) t).b.size := by rw [List.length_map, Tr.size_ps]
  have hOl := Own.lt hO b rfl
  refine ⟨b, fun i => A.E (((openT (sdT u A.E) t).b.spots 0).getD i (0, 0)).1, (openT (sdT u A.E) t).a.ps.map A.E, (openT (sdT u A.E) t).b.ps.map A.E, by rw [el], by rw [hLe, hps, List.map_append], ⟨hOl.2, fun i r hi hr => ?_⟩, fun i hi => ?_, hOl.1, fun x hx => ?_, fun x hx => ?_, ⟨c, n, A', _, fl', root', _, hq', hE.symm, by omega⟩, hC⟩
  · rw [el] at hi
    rw [hO.cell (j := i * 6 + r) (by omega)]
    unfold evF
    rw [show (i * 6 + r) / 6 = i by omega, show (i * 6 + r) % 6 = r by omega]
  · rw [el] at hi
    have hi2 : i < ((openT (sdT u A.E) t).b.spots 0).length := by rw [spots_len]; omega
    show _ = some (A.E (((openT (sdT u A.E) t).b.spots 0).getD i (0, 0)).1)
    rw [← hsp, List.map_map, List.getElem?_map, List.getElem?_eq_getElem hi2, List.getD_eq_getElem?_getD, List.getElem?_eq_getElem hi2]
    rfl
  · obtain ⟨p, hp, rfl⟩ := List.mem_map.1 hx
    exact hta p hp
  · obtain ⟨p, hp, rfl⟩ := List.mem_map.1 hx
    exact htb p hp
end Go.Proofs.Ytlklolmhaiaaiaa
