import Derived.Test.YtmekcccmnkgodaaGreatDoorFGI4
namespace Go.Proofs.YtmekcccmnkgodaaGreatDoor
open Go.ChangeShapes Go.WideShapes Go.ChangeAt Go.RowKit
set_option linter.unusedVariables false
set_option linter.unusedSimpArgs false
theorem hfn_lay (vs : Array Value) (W : World) : (callFunc 37 vs).run Tryz.prog W = .ok (.enter 37 vs) W := by go_simp
theorem cell_box1 {W : World} {b : Nat} {c0 : Value} {t : TypeId} (h : W.heap[b]? = some (.cells #[c0] t (0, 0))) : W.cell? ⟨b, 0, none⟩ = some c0 := by
  unfold World.cell?
  simp [h]
def LayC (md : List Nd) (ks : List Value) (base nb mb lb g cap gm cm k : Nat) : Prop := ∀ (lo : Nat) (d : Nd) (T : List Nd) (vs : List Value) (w : World), md[k]? = some d → Sg md lo k d.kids → LyI md ks base nb mb lb g cap gm cm w T vs → Kd md ks base w lo (k + 1) → base ≤ w.heap.size → T.length + (k + 1 - lo) ≤ cap → Calls Tryz.prog 37 #[.int .i64 (k : Int), .pointer (some ⟨nb, 0, none⟩), .pointer (some ⟨mb, 0, none⟩), .pointer (some ⟨lb, 0, none⟩)] w (LayP md ks base nb mb lb g cap gm cm k lo d T vs w)
/-- the node's own row of kids stays while a kid is laid -/
theorem RdI.vrow {md : List Nd} {ks : List Value} {base nb mb lb g cap gm cm : Nat} {w : World} {k lo : Nat} {d : Nd} {n1 : List Nat} {T : List Nd} {vs : List Value} {l1 r ns : List Nat} {t : List Nd} {q : List Nat} {lo1 c : Nat} {wr w1 : World} (h : RdI md ks base nb mb lb g cap gm cm w k lo d n1 T vs l1 (c :: r) ns t q lo1 wr) (hk : LK md ks base nb mb g cap gm) (hkm : k < md.length) {dc : Nd} (hs1 : Sg md lo1 c dc.kids) (hs2 : Sg md (c + 1) k r) {bv : Nat} (hvb : (ksv ks k).ownBlock = some bv) (F2 : FR ks base nb g lo1 (c + 1) wr w1) : w1.heap[bv]? = wr.heap[bv]? := by
  obtain ⟨cg, hcg, _⟩ := h.li.row.block
  have hb0 := own_ltG h.ow hvb
  have g2 := hs2.le
  exact F2.oth bv hb0.1 (own_ne h.ow h.li.box (by decide) bv hvb) (own_ne h.ow hcg (by decide) bv hvb) fun i u h1 h2 hu hub => hk.apt i k u _ bv (by omega) hu (hk.at hkm) hub hvb
theorem RdI.vfrz {md : List Nd} {ks : List Value} {base nb mb lb g cap gm cm : Nat} {w : World} {k lo : Nat} {d : Nd} {n1 : List Nat} {T : List Nd} {vs : List Value} {l1 r ns : List Nat} {t : List Nd} {q : List Nat} {lo1 : Nat} {wr w1 : World} (h : RdI md ks base nb mb lb g cap gm cm w k lo d n1 T vs l1 r ns t q lo1 wr) {bv o : Nat} (hX : w1.heap[bv]? = wr.heap[bv]?) (hvb : (ksv ks k).ownBlock = some bv) : w1.frozen? ⟨bv, o, none⟩ = false := by
  obtain ⟨cb, hcb⟩ := int_block h.ow hvb
  exact frz_box (hX.trans hcb)
/-- what is read of it -/
theorem LyI.see {md : List Nd} {ks : List Value} {base nb mb lb g cap gm cm : Nat} {w : World} {T t : List Nd} {vs q : List Value} {d : Nd} {v : Value} {m M : Nat} (h : LyI md ks base nb mb lb g cap gm cm w (T ++ d :: t) (vs ++ v :: q)) (h1 : T.length = m) (h2 : vs.length = m) (h3 : m + 1 + t.length = M) : w.cell? ⟨nb, 0, none⟩ = some (.slice (some ⟨g, 0, none⟩) M cap) ∧ w.cell? ⟨g, m * 7 + 4, none⟩ = some v ∧ w.cell? ⟨lb, 0, none⟩ = some (.func (.func 37) #[] #[.pointer (some ⟨nb, 0, none⟩), .pointer (some ⟨mb, 0, none⟩), .pointer (some ⟨lb, 0, none⟩)]) := by
  have e : (T ++ d :: t).length = M := by simp only [List.length_append, List.length_cons]; omega
  refine ⟨by rw [← e]; exact cell_box1 h.box, ?_, cell_box1 h.lay⟩
  have e1 : (T ++ d :: t)[m]? = some d := by rw [← h1]; simp
  have e2 : (vs ++ v :: q)[m]? = some v := by rw [← h2]; simp
  exact (own_node h.row e1 e2).2.2.2.2.1
set_option maxRecDepth 100000 in
set_option maxHeartbeats 4000000 in
theorem lay_any {md : List Nd} {ks : List Value} {base nb mb lb g cap gm cm : Nat} (hk : LK md ks base nb mb g cap gm) : ∀ k, LayC md ks base nb mb lb g cap gm cm k := by
  intro k
  induction k using Nat.strongRecOn with
  | _ k ih =>
  intro lo d T vs w hd hs hI hKd hbs hcap
  have hkm : k < md.length := (List.getElem?_eq_some_iff.1 hd).1
  have hle := hs.le
  obtain ⟨n1, t1, q1, hL, -, -⟩ := hs.lay (T.length + 1)
  have hv := hk.at hkm
  have hO := hKd k d _ (by omega) (by omega) hd hv
  obtain ⟨p, c, ev, hp⟩ := own_form' hO
  obtain ⟨i0, hi0, hz0, hz1, hz2⟩ := info_parts infoNd
  obtain ⟨cur, hcur, hcs, -, hcm, -, -⟩ := hI.row.block
  obtain ⟨cb, hcb, -⟩ := hI.mrow.block
  have cn := cell_box1 hI.box
  have cm0 := cell_box1 hI.mbx
  obtain ⟨x0, x1, x2, x3, x4, x5, x6⟩ := own_node hI.mrow hd hv
  have fn0 : w.frozen? ⟨nb, 0, none⟩ = false := frz_box hI.box
  obtain ⟨m, hm⟩ : ∃ m, T.length = m := ⟨_, rfl⟩
  have k0 : (0 : Int) ≤ (k : Int) := by omega
  have k1 : (k : Int) < (md.length : Int) := by omega
  have lt : ∀ {b : Nat} {o : Obj}, w.heap[b]? = some o → b < w.heap.size := fun e => (Array.getElem?_eq_some_iff.1 e).1
  have lnb := lt hI.box
  have lg := lt hcur
  have m1 : m + 1 ≤ cap := by omega
  have np : ¬ (w.heap.size = nb) := by omega
  have np2 : nb < w.heap.size := lnb
  have fit : m * 7 + 7 ≤ cur.size := by rw [hcs]; omega
  rw [ev] at x4
  have HK := mhid hk
  have HI := mhid hI
  have HKD := mhid hKd
  have HD := mhid (And.intro hd (And.intro hs (And.intro hL (And.intro hv (And.intro hO (And.intro hp (And.intro hbs (And.intro hcap (And.intro hle hkm)))))))))
  have HCU := mhid (And.intro hcur (And.intro hcs (And.intro lnb lg)))
  have IH := mhid ih
  have HEV := mhid ev
  rw [hm] at cn
  have HM := mhid hm
  clear hk hI hKd hd hs hL hv hO hp hbs hcap ih hcur hcb ev hm lnb lg lt hcs hle hkm
  have HB2 : Hid (Below w.heap.size w (w.drew.alloc (.cells #[.int .i64 d.kind, .string ⟨d.name.toArray⟩, .int .u64 (d.num : Int), .int .i64 d.op, .slice p d.kids.length c, .int .i64 d.line, .int .i64 d.col] 44))) := (Below.refl _ w).drew.alloc (Nat.le_refl _) _
  have HG2 : Hid ((w.drew.alloc (.cells #[.int .i64 d.kind, .string ⟨d.name.toArray⟩, .int .u64 (d.num : Int), .int .i64 d.op, .slice p d.kids.length c, .int .i64 d.line, .int .i64 d.col] 44)).heap[g]? = some (.cells cur 44 (0, 0))) := (HB2.out.block g HCU.out.2.2.2).trans HCU.out.1
  have HN2 : Hid ((w.drew.alloc (.cells #[.int .i64 d.kind, .string ⟨d.name.toArray⟩, .int .u64 (d.num : Int), .int .i64 d.op, .slice p d.kids.length c, .int .i64 d.line, .int .i64 d.col] 44)).heap[nb]? = some (.cells #[.slice (some ⟨g, 0, none⟩) m cap] 22 (0, 0))) := (HB2.out.block nb HCU.out.2.2.1).trans (by rw [← HM.out]; exact HI.out.box)
  have HNG : Hid (nb ≠ g) := fun e => by
    have := HI.out.box
    rw [e, HCU.out.1] at this
    injection this with this
    injection this with _ this _
    exact absurd this (by decide)
  go_enter Tryz.func37, Tryz.ntmps37
  go_upto_region 2 with fail
  go_region_law (refine step_appR rfl (.tmp 11) (.tmp 16) 22 rfl 44 i0 7 hz1 Tryz.underlying22 hi0 g m cap cur HG2.out (by simp [Act.eval, Act.put]) ⟨w.heap.size, 0, none⟩ 1 1 [.int .i64 d.kind, .string ⟨d.name.toArray⟩, .int .u64 (d.num : Int), .int .i64 d.op, .slice p d.kids.length c, .int .i64 d.line, .int .i64 d.col] (by simp [Act.eval, Act.put]) rfl (seven_new w.drew _ _ _ _ _ _ _ _) (by simp only [List.mem_cons, List.not_mem_nil, or_false]; rintro u (rfl | rfl | rfl | rfl | rfl | rfl | rfl) <;> rfl) m1 fit ?_; intro w3 hw3; have hb3 : w3.heap[nb]? = some (.cells #[.slice (some ⟨g, 0, none⟩) m cap] 22 (0, 0)) := (by rw [hw3, setRow_other _ g nb _ HNG.out]; exact HN2.out); have cn3 := cell_box1 hb3; have fn3 : w3.frozen? ⟨nb, 0, none⟩ = false := frz_box hb3; have HW3 := mhid hw3; clear hw3 hb3)
  all_goals
    obtain ⟨hd, hs, hL, hv, hO, hp, hbs, hcap, hle, hkm⟩ := HD.out
    have hA : LyI md ks base nb mb lb g cap gm cm (w3.setCell ⟨nb, 0, none⟩ (.slice (some ⟨g, 0, none⟩) (m + 1) cap)) (T ++ [nk d n1]) (vs ++ [ksv ks k]) ∧ FR ks base nb g lo lo w (w3.setCell ⟨nb, 0, none⟩ (.slice (some ⟨g, 0, none⟩) (m + 1) cap)) := by
      rw [HW3.out, ← HM.out, HEV.out]
      exact LyI.add HK.out HI.out HB2.out hbs (by rw [HM.out]; exact m1) HCU.out.1 (nk d n1) _ lo lo
    obtain ⟨w4, hw4⟩ : ∃ w4, w3.setCell ⟨nb, 0, none⟩ (.slice (some ⟨g, 0, none⟩) (m + 1) cap) = w4 := ⟨_, rfl⟩
    rw [hw4] at hA ⊢
    have R0 : RdI md ks base nb mb lb g cap gm cm w k lo d n1 T vs [] d.kids [] [] [] lo w4 := ⟨rfl, .nil _, hs, Nat.le_refl _, by simp, by simp, hA.1, (Kd.step HK.out HKD.out hA.2 (.inl (Nat.le_refl _)) HI.out.box HCU.out.1) k d _ hle (by omega) hd hv, fun i d' v' h1 h2 => (Kd.step HK.out HKD.out hA.2 (.inl (Nat.le_refl _)) HI.out.box HCU.out.1) i d' v' h1 (by omega), hA.2.wide (Nat.le_refl _) (by omega), Lr.nil _ _ _, Nat.le_trans hbs hA.2.b.size⟩
    have cm4 := cell_box1 hA.1.mbx
    obtain ⟨-, -, -, -, y4, -, -⟩ := own_node hA.1.mrow hd hv
    rw [HEV.out] at y4
    have R00 := mhid R0
    clear R0 hA hw4 cn cn3 fn3 fn0 x0 x1 x2 x3 x4 x5 x6 cm0 HB2 HG2 HN2 HNG HW3 fit hd hs hL hv hO hbs hcap hle hkm np np2 hz0 hz1 hz2 hi0 hcm HCU
    go_wp2
    go_loopw [24] (fun v wr => ∃ (i : Nat) (l1 r ns : List Nat) (t : List Nd) (q : List Nat) (lo1 : Nat), v = .int .i64 (i : Int) ∧ ns.length = i ∧ RdI md ks base nb mb lb g cap gm cm w k lo d n1 T vs l1 r ns t q lo1 wr) (fun v _ => d.kids.length - (intOf v).toNat)
    case atStart => exact ⟨0, [], d.kids, [], [], [], lo, rfl, rfl, R00.out⟩
    case round =>
      obtain ⟨i, l1, r, ns, t, q, lo1, rfl, hi, hR⟩ := hrel
      clear cm4 y4 R00
      have hlen := hR.ly.len.1
      cases r with
      | nil =>
        have hlt : ¬ (i < d.kids.length) := by rw [hR.spl, List.append_nil]; omega
        have dl : decide ((i : Int) < (d.kids.length : Int)) = false := decide_eq_false (by omega)
        have dl2 : decide (i < d.kids.length) = false := decide_eq_false hlt
        have HR := mhid hR
        clear hR hlen
        go_wp2
        go_ret
        have h9 := HR.out.done HD.out.2.2.1
        rw [HM.out] at h9
        exact h9
      | cons c0 r =>
        have hlt : i < d.kids.length := by rw [hR.spl, List.length_append, List.length_cons]; omega
        obtain ⟨bv, rfl⟩ : ∃ bv, p = some ⟨bv, 0, none⟩ := hp.resolve_left (by omega)
        have hsg := hR.sg
        obtain ⟨dc, hdc, hs1, hs2⟩ : ∃ dc, md[c0]? = some dc ∧ Sg md lo1 c0 dc.kids ∧ Sg md (c0 + 1) k r := by
          cases hsg with
          | cons h1 h2 h3 => exact ⟨_, h1, h2, h3⟩
        have hck : c0 < k := by have := hs2.le; omega
        have hOw := hR.ow
        rw [HEV.out] at hOw
        have cv := hOw.cell (j := i) (by omega)
        have ec : kF (ns ++ c0 :: r) i = .int .i64 (c0 : Int) := by
          unfold kF
          rw [← hi]
          simp [List.getD_eq_getElem?_getD]
        rw [ec] at cv
        obtain ⟨M, hM⟩ : ∃ M, m + 1 + t.length = M := ⟨_, rfl⟩
        have hvl : vs.length = m := by rw [← HM.out]; exact HI.out.len
        obtain ⟨s1, s2, s3⟩ := hR.li.see HM.out hvl hM
        rw [HEV.out] at s2
        have hRd := hR.below (wr' := wr.drew) (Below.refl _ wr).drew
        have hT : (T ++ nk d n1 :: t).length = M := by simp only [List.length_append, List.length_cons]; have := HM.out; omega
        have HC : Hid (Calls Tryz.prog 37 (#[.int .i64 (c0 : Int)] ++ #[.pointer (some ⟨nb, 0, none⟩), .pointer (some ⟨mb, 0, none⟩), .pointer (some ⟨lb, 0, none⟩)]) wr.drew (LayP md ks base nb mb lb g cap gm cm c0 lo1 dc (T ++ nk d n1 :: t) (vs ++ ksv ks k :: q.map (ksv ks)) wr.drew)) := IH.out c0 hck lo1 dc _ _ wr.drew hdc hs1 hRd.li (fun i' d' v' h1 h2 => hRd.kd i' d' v' h1 (by omega)) hRd.sz (by rw [hT]; have h1 := hR.tl; have h2 := hR.le; have h3 := HD.out.2.2.2.2.2.2.2.1; have h4 := HM.out; have h5 := hs1.le; omega)
        have HR := mhid (And.intro hRd (And.intro hdc (And.intro hs1 (And.intro hs2 (And.intro hvl (And.intro hM (And.intro hT hi)))))))
        have dl : decide ((i : Int) < (d.kids.length : Int)) = true := decide_eq_true (by omega)
        have dl2 : decide (i < d.kids.length) = true := decide_eq_true hlt
        have i0 : (0 : Int) ≤ (i : Int) := by omega
        have i1 : (i : Int) < (d.kids.length : Int) := by omega
        have j0 : (0 : Int) ≤ (m : Int) := by omega
        have j1 : (m : Int) < (M : Int) := by omega
        have ei : IntKind.i64.wrap ((i : Int) + 1) = ((i + 1 : Nat) : Int) := by rw [IntKind.wrap_i64]; have := HK.out.m2; have h9 : d.kids.length ≤ 9223372036854775807 := by { have h8 := hOw.block; obtain ⟨_, _, _, h1, h2, _⟩ := h8; unfold maxLen at h2; omega }; omega
        have hm := measW hlt
        clear hR hsg hdc hs1 hs2 hOw ec hvl hM hRd hT hlen hi
        go_upto_region 6 with fail
        go_region_law (refine step_cl hfn_lay rfl (.tmp 35) #[.tmp 36] #[3] rfl _ (by simp [Act.eval, Act.put]) #[.int .i64 (c0 : Int)] (by simp [Act.eval, Act.put]) _ HC.out ?_; rintro e w1 hP; have HP := mhid hP; obtain ⟨rfl, n2, t2, q2, L2, I2, F2, R2⟩ := hP; have HX := HR.out; have I3 : LyI md ks base nb mb lb g cap gm cm w1 (T ++ nk d n1 :: (t ++ nk dc n2 :: t2)) (vs ++ ksv ks k :: (q.map (ksv ks) ++ ksv ks c0 :: q2.map (ksv ks))) := (by simpa using I2); obtain ⟨M2, hM2⟩ : ∃ M2, m + 1 + (t ++ nk dc n2 :: t2).length = M2 := ⟨_, rfl⟩; obtain ⟨u1, u2, u3⟩ := I3.see HM.out HX.2.2.2.2.1 hM2; rw [HEV.out] at u2; have l2 : (m : Int) < (M2 : Int) := (by omega); have hX : w1.heap[bv]? = wr.drew.heap[bv]? := HX.1.vrow HK.out HD.out.2.2.2.2.2.2.2.2.2 HX.2.2.1 HX.2.2.2.1 (by rw [HEV.out]; rfl) F2; have fb : w1.frozen? ⟨bv, i, none⟩ = false := HX.1.vfrz hX (by rw [HEV.out]; rfl); have cb1 : w1.cell? ⟨bv, i, none⟩ = some (.int .i64 (c0 : Int)) := (World.cell?_of_block (a := ⟨bv, i, none⟩) hX).trans cv; rw [HX.2.2.2.2.2.2.1]; clear HX I3 I2 L2 F2 R2 hX hM2)
        all_goals
          obtain ⟨hRd, hdc, hs1, hs2, hvl, hM, hT, hi⟩ := HR.out
          obtain ⟨ns', t', q', hn', hN⟩ := hRd.next HK.out HD.out.2.2.2.2.2.2.2.2.2 hdc hs1 hs2 HEV.out HP.out
          rw [hi] at hN hn'
          rw [show T.length + 1 + t.length = M by rw [HM.out]; exact hM] at hN
          have HN := mhid (And.intro hn' hN)
          clear hRd hdc hs1 hs2 hvl hM hT hi hn' hN u1 u2 u3 fb cb1 s1 s2 s3 cv
          go_wp2
          exact ⟨⟨i + 1, l1 ++ [c0], r, ns', t', q', c0 + 1, rfl, HN.out.1, HN.out.2⟩, hm⟩
end Go.Proofs.YtmekcccmnkgodaaGreatDoor
namespace Go.Proofs.YtmekcccmnkgodaaGreatDoor
open Go.ChangeShapes Go.WideShapes Go.ChangeAt Go.RowKit
set_option linter.unusedVariables false
set_option linter.unusedSimpArgs false
/-- a tree as it lies -/
structure TR (W : World) (base : Nat) (tv : Value) (T : List Nd) (vs : List Value) : Prop where
  row : Own W base 44 7 tv T.length (NF T vs)
  len : vs.length = T.length
  kid : ∀ (j : Nat) (d : Nd) (v : Value), T[j]? = some d → vs[j]? = some v → Own W base 3 1 v d.kids.length (kF d.kids)
  apt : ∀ (i j : Nat) (v u : Value) (b : Nat), i < j → vs[i]? = some v → vs[j]? = some u → v.ownBlock = some b → u.ownBlock = some b → False
theorem TR.below {W W' : World} {base : Nat} {tv : Value} {T : List Nd} {vs : List Value} (h : TR W base tv T vs) (hb : Below W.heap.size W W') : TR W' base tv T vs :=
  ⟨h.row.far fun b e => hb.block b (own_ltG h.row e).1, h.len, fun j d v h1 h2 => (h.kid j d v h1 h2).far fun b e => hb.block b (own_ltG (h.kid j d v h1 h2) e).1, h.apt⟩
theorem make_nd (n : Nat) (hn : n ≤ 20000) : ∃ A : Array Value, A.size = n * 7 ∧ ∀ W : World, (Instr.makeSlice 22 (.int .i64 0) (.int .i64 (n : Int))).run Tryz.prog W = .ok (.slice (some ⟨W.heap.size, 0, none⟩) 0 n) (W.alloc (.cells A 44)) := by
  obtain ⟨i0, hi0, hz0, hz1, hz2⟩ := info_parts infoNd
  refine ⟨madeCells (Value.agg #[.int .i64 0, .string ⟨#[]⟩, .int .u64 0, .int .i64 0, .slice none 0 0, .int .i64 0, .int .i64 0]).cells (n * 7), size_madeCells _ _, fun W => ?_⟩
  have hr := run_make (P := Tryz.prog) W 22 44 i0 _ Tryz.underlying22 hi0 hz0 .i64 .i64 0 n (by omega) (by omega) (by rw [hz2]; omega) (by omega)
  simp only [Int.toNat_natCast, hz1] at hr
  exact hr
set_option maxRecDepth 100000 in
theorem st_fn (W : World) (n : Nat) (hn : W.heap.size = n) (f : FuncId) (caps : Array Value) (t : TypeId) : (store ⟨n, 0, none⟩ (.func (.func f) #[] caps)).run Tryz.prog (W.alloc (.cells #[.nilFunc] t)) = .ok () (W.alloc (.cells #[.func (.func f) #[] caps] t)) := by
  subst hn
  rw [run_store Tryz.prog _ _ _ _ rfl]
  go_simp
set_option maxRecDepth 100000 in
set_option maxHeartbeats 4000000 in
theorem inOrder_any {md : List Nd} {ks : List Value} {base gm cm root : Nat} {d : Nd} (w : World) (hbs : base ≤ w.heap.size) (hrow : Own w base 44 7 (.slice (some ⟨gm, 0, none⟩) md.length cm) md.length (NF md ks)) (hlen : ks.length = md.length) (hkid : ∀ (i : Nat) (d : Nd) (v : Value), md[i]? = some d → ks[i]? = some v → Own w base 3 1 v d.kids.length (kF d.kids)) (hapt : ∀ (i j : Nat) (v u : Value) (b : Nat), i < j → ks[i]? = some v → ks[j]? = some u → v.ownBlock = some b → u.ownBlock = some b → False) (hm : md.length ≤ 20000) (hd : md[root]? = some d) (hs : Sg md 0 root d.kids) (hr : root + 1 = md.length) :
    Calls Tryz.prog 23 #[.slice (some ⟨gm, 0, none⟩) md.length cm, .int .i64 (root : Int)] w fun e w' => ∃ tp tc T q vs, e = .returned (.slice tp T.length tc) ∧ Lay md [root] 0 [0] T q ∧ TR w' base (.slice tp T.length tc) T vs ∧ Below base w w' := by
  obtain ⟨A, hA, hmk⟩ := make_nd md.length hm
  obtain ⟨n, hn⟩ : ∃ n, md.length = n := ⟨_, rfl⟩
  have HH := mhid (And.intro hbs (And.intro hrow (And.intro hlen (And.intro hkid (And.intro hapt (And.intro hm (And.intro hd (And.intro hs (And.intro hr (And.intro hn hA))))))))))
  rw [hn] at hmk ⊢
  clear hbs hrow hlen hkid hapt hm hd hs hr hA hn
  have hst := st_fn (((w.alloc (.cells #[.slice (some ⟨gm, 0, none⟩) n cm] 22)).alloc (.cells A 44)).alloc (.cells #[.slice (some ⟨w.heap.size + 1, 0, none⟩) 0 n] 22)) (w.heap.size + 1 + 1 + 1) (by simp) 37 #[.pointer (some ⟨w.heap.size + 1 + 1, 0, none⟩), .pointer (some ⟨w.heap.size, 0, none⟩), .pointer (some ⟨w.heap.size + 1 + 1 + 1, 0, none⟩)] 96
  go_enter Tryz.func23, Tryz.ntmps23
  go_upto_region 4 with fail
  obtain ⟨w4, hw4⟩ : ∃ w4, ((((w.alloc (.cells #[.slice (some ⟨gm, 0, none⟩) n cm] 22)).alloc (.cells A 44)).alloc (.cells #[.slice (some ⟨w.heap.size + 1, 0, none⟩) 0 n] 22)).alloc (.cells #[.func (.func 37) #[] #[.pointer (some ⟨w.heap.size + 1 + 1, 0, none⟩), .pointer (some ⟨w.heap.size, 0, none⟩), .pointer (some ⟨w.heap.size + 1 + 1 + 1, 0, none⟩)]] 96)) = w4 := ⟨_, rfl⟩
  rw [hw4]
  obtain ⟨hbs, hrow, hlen, hkid, hapt, hm, hd, hs, hr, hn, hA⟩ := HH.out
  have hb4 : Below w.heap.size w w4 := by rw [← hw4]; exact ((((Below.refl _ w).alloc (Nat.le_refl _) _).alloc (by simp) _).alloc (by simp <;> omega) _).alloc (by simp <;> omega) _
  have at0 : w4.heap[w.heap.size]? = some (.cells #[.slice (some ⟨gm, 0, none⟩) n cm] 22 (0, 0)) := by
    rw [← hw4]
    rw [Below.heap_alloc (((w.alloc (.cells #[.slice (some ⟨gm, 0, none⟩) n cm] 22)).alloc (.cells A 44)).alloc (.cells #[.slice (some ⟨w.heap.size + 1, 0, none⟩) 0 n] 22)) _ _ (by simp <;> omega), Below.heap_alloc ((w.alloc (.cells #[.slice (some ⟨gm, 0, none⟩) n cm] 22)).alloc (.cells A 44)) _ _ (by simp <;> omega), Below.heap_alloc (w.alloc (.cells #[.slice (some ⟨gm, 0, none⟩) n cm] 22)) _ _ (by simp)]
    exact World.alloc_heap_new w _
  have at1 : w4.heap[w.heap.size + 1]? = some (.cells A 44 (0, 0)) := by
    rw [← hw4]
    rw [Below.heap_alloc (((w.alloc (.cells #[.slice (some ⟨gm, 0, none⟩) n cm] 22)).alloc (.cells A 44)).alloc (.cells #[.slice (some ⟨w.heap.size + 1, 0, none⟩) 0 n] 22)) _ _ (by simp <;> omega), Below.heap_alloc ((w.alloc (.cells #[.slice (some ⟨gm, 0, none⟩) n cm] 22)).alloc (.cells A 44)) _ _ (by simp)]
    have h9 := World.alloc_heap_new (w.alloc (.cells #[.slice (some ⟨gm, 0, none⟩) n cm] 22)) (.cells A 44 (0, 0))
    rw [World.size_alloc] at h9
    exact h9
  have at2 : w4.heap[w.heap.size + 1 + 1]? = some (.cells #[.slice (some ⟨w.heap.size + 1, 0, none⟩) 0 n] 22 (0, 0)) := by
    rw [← hw4]
    rw [Below.heap_alloc (((w.alloc (.cells #[.slice (some ⟨gm, 0, none⟩) n cm] 22)).alloc (.cells A 44)).alloc (.cells #[.slice (some ⟨w.heap.size + 1, 0, none⟩) 0 n] 22)) _ _ (by simp)]
    have h9 := World.alloc_heap_new ((w.alloc (.cells #[.slice (some ⟨gm, 0, none⟩) n cm] 22)).alloc (.cells A 44)) (.cells #[.slice (some ⟨w.heap.size + 1, 0, none⟩) 0 n] 22 (0, 0))
    rw [World.size_alloc, World.size_alloc] at h9
    exact h9
  have at3 : w4.heap[w.heap.size + 1 + 1 + 1]? = some (.cells #[.func (.func 37) #[] #[.pointer (some ⟨w.heap.size + 1 + 1, 0, none⟩), .pointer (some ⟨w.heap.size, 0, none⟩), .pointer (some ⟨w.heap.size + 1 + 1 + 1, 0, none⟩)]] 96 (0, 0)) := by
    rw [← hw4]
    have h9 := World.alloc_heap_new (((w.alloc (.cells #[.slice (some ⟨gm, 0, none⟩) n cm] 22)).alloc (.cells A 44)).alloc (.cells #[.slice (some ⟨w.heap.size + 1, 0, none⟩) 0 n] 22)) (.cells #[.func (.func 37) #[] #[.pointer (some ⟨w.heap.size + 1 + 1, 0, none⟩), .pointer (some ⟨w.heap.size, 0, none⟩), .pointer (some ⟨w.heap.size + 1 + 1 + 1, 0, none⟩)]] 96 (0, 0))
    rw [World.size_alloc, World.size_alloc, World.size_alloc] at h9
    exact h9
  have hgl : gm < w.heap.size := (own_ltG hrow (b := gm) rfl).1
  have hK : LK md ks base (w.heap.size + 1 + 1) w.heap.size (w.heap.size + 1) n gm := ⟨by omega, by omega, by omega, by omega, hlen, hm, by omega, hapt⟩
  have hI : LyI md ks base (w.heap.size + 1 + 1) w.heap.size (w.heap.size + 1 + 1 + 1) (w.heap.size + 1) n gm cm w4 [] [] := ⟨at2, Own.mk' at1 (by rw [hA, hn]) (by simp) (by unfold maxLen; omega) (by omega) (by intro j hj; simp at hj), rfl, by rw [hn]; exact at0, hrow.far fun b e => hb4.block b (own_ltG hrow e).1, at3⟩
  have hKd : Kd md ks base w4 0 (root + 1) := fun i d' v' _ _ h3 h4 => (hkid i d' v' h3 h4).far fun b e => hb4.block b (own_ltG (hkid i d' v' h3 h4) e).1
  have HC : Hid (Calls Tryz.prog 37 #[.int .i64 (root : Int), .pointer (some ⟨w.heap.size + 1 + 1, 0, none⟩), .pointer (some ⟨w.heap.size, 0, none⟩), .pointer (some ⟨w.heap.size + 1 + 1 + 1, 0, none⟩)] w4 (LayP md ks base (w.heap.size + 1 + 1) w.heap.size (w.heap.size + 1 + 1 + 1) (w.heap.size + 1) n gm cm root 0 d [] [] w4)) := lay_any hK root 0 d [] [] w4 hd hs hI hKd (Nat.le_trans hbs hb4.size) (by simp; omega)
  have cl := cell_box1 at3
  have HB4 := mhid (And.intro hb4 hK)
  clear hbs hrow hlen hkid hapt hm hd hs hr hn hA hw4 hb4 at0 at1 at2 at3 hK hI hKd hst hmk hgl
  go_wp2_with ((with_reducible refine (HC.out).mono ?_); rintro e w5 ⟨rfl, n1, t1, q1, L1, I1, F1, R1⟩; simp only [List.nil_append] at I1; have c5 := cell_box1 I1.box; have HX := mhid (And.intro L1 (And.intro I1 (And.intro F1 R1))); clear L1 I1 F1 R1 cl)
  go_ret
  obtain ⟨L1, I1, F1, R1⟩ := HX.out
  obtain ⟨hbs, hrow, hlen, hkid, hapt, hm, hd, hs, hr, hn, hA⟩ := HH.out
  obtain ⟨hb4, hK⟩ := HB4.out
  have hsz := hs.size L1
  have hS1 : Sg md 0 (root + 1) [root] := .cons hd hs (.nil _)
  have hL1 : Lay md [root] 0 [0] (nk d n1 :: t1) (root :: q1) := by have := Lay.cons (a := 0) hd L1 (.nil _); simpa using this
  have hmem : ∀ x ∈ root :: q1, x < md.length := fun x hx => by
    have := (hS1.size hL1).2 x hx
    omega
  refine ⟨some ⟨w.heap.size + 1, 0, none⟩, n, nk d n1 :: t1, root :: q1, (root :: q1).map (ksv ks), rfl, hL1, ⟨I1.row, I1.len, ?_, ?_⟩, (hb4.mono hbs).trans F1.b⟩
  · intro j d' v' h1 h2
    rw [List.getElem?_map] at h2
    cases hq : (root :: q1)[j]? with
    | none => rw [hq] at h2; cases h2
    | some x =>
      rw [hq] at h2
      injection h2 with h2
      subst h2
      exact R1 j d' x h1 hq
  · intro i j v u b hij h1 h2 h3 h4
    rw [List.getElem?_map] at h1 h2
    cases hi : (root :: q1)[i]? with
    | none => rw [hi] at h1; cases h1
    | some x =>
      cases hj : (root :: q1)[j]? with
      | none => rw [hj] at h2; cases h2
      | some y =>
        rw [hi] at h1
        rw [hj] at h2
        injection h1 with h1
        injection h2 with h2
        subst h1 h2
        refine hK.apt' (x := x) (y := y) (hmem x (List.mem_of_getElem? hi)) (hmem y (List.mem_of_getElem? hj)) (fun e => ?_) h3 h4
        subst e
        have hnd := hS1.nodup hL1
        obtain ⟨li, ei⟩ := List.getElem?_eq_some_iff.1 hi
        obtain ⟨lj, ej⟩ := List.getElem?_eq_some_iff.1 hj
        exact (List.pairwise_iff_getElem.1 hnd) i j li lj hij (ei.trans ej.symm)
end Go.Proofs.YtmekcccmnkgodaaGreatDoor
