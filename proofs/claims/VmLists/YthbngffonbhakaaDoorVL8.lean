import Derived.Test.YthbngffonbhakaaDoorVL6
import Derived.Test.YthbngffonbhakaaDoorVL7
import Derived.BigQuiet
import Derived.Deep.RegionLaw
import Derived.Deep.RegionHeld3
import Derived.Deep.Cut
import Derived.Deep.DeepCutAuto
import Derived.Deep.CutBlock
import Derived.Deep.CutRange
import Derived.Handy
import Derived.Laws.OwnMore
import Derived.Lib.SlBytesConst
namespace Go.Proofs.YthbngffonbhakaaDoor
open Go.ChangeShapes Go.WideShapes Go.ChangeAt Go.RowKit Go.Sort
set_option linter.unusedVariables false
set_option linter.unusedSimpArgs false


theorem lnB_0 {o a b : Int} (h : tlN o a b = 0) : lnB o a b = nm o ++ [10] := by simp [lnB, h, nsB]
theorem lnB_1 {o a b : Int} (h : tlN o a b = 1) : lnB o a b = nm o ++ [32] ++ Lib.itoa a ++ [10] := by simp [lnB, h, nsB, numB, abF]
theorem lnB_2 {o a b : Int} (h : tlN o a b = 2) : lnB o a b = nm o ++ [32] ++ Lib.itoa a ++ [32] ++ Lib.itoa b ++ [10] := by simp [lnB, h, nsB, numB, abF]
theorem itoa_pos (n : Int) : 0 < (Lib.itoa n).length := by
  have hd : ∀ u, 0 < (Lib.decDigits u).length := fun u => by
    rw [Lib.decDigits]
    split
    · simp
    · simp
  unfold Lib.itoa
  split
  · simp
  · exact hd _
theorem bcell_of {W : World} {g : Nat} {l : List UInt8} {T : TypeId} {fz : Nat × Nat} (h : W.heap[g]? = some (.cells (Lib.byteCells l).toArray T fz)) : ∀ j u, (Lib.byteCells l)[j]? = some u → W.cell? ((⟨g, 0, none⟩ : Addr).add j) = some u := fun j u hu => by
  have e : (⟨g, 0, none⟩ : Addr).add j = ⟨g, j, none⟩ := by
    unfold Addr.add
    by_cases hi : j = 0 <;> simp [hi]
  rw [e]
  unfold World.cell?
  rw [h]
  simpa using hu
theorem app_mark {ops : Array Oper} {rest : List Oper} {o : Oper} {a : Act} {w : World} {Q : Exit → Act → World → Prop} (hgd : o.guard = none) (sl x : Operand)
    (ho : o.op = .call { callee := .builtin .append, args := #[sl, x], argTypes := #[31, 9] }) (B g : Nat) (l : List UInt8) (n : Nat) (hn : l.length = n) (hs : a.eval sl = .slice (some ⟨g, 0, none⟩) n n)
    (hc : ∀ j u, (Lib.byteCells l)[j]? = some u → w.cell? ((⟨g, 0, none⟩ : Addr).add j) = some u)
    (s : List UInt8) (hx : a.eval x = .string ⟨s.toArray⟩) (hs0 : 0 < s.length) (hlim : n + s.length ≤ 140737488355328) (hbase : B ≤ w.heap.size)
    (h : ∀ v' w', BR B w' v' (l ++ s) → Fr B w w' → wpList Tryd.prog ops Q rest (a.put o.dst v') w') : wpList Tryd.prog ops Q (o :: rest) a w := by
  obtain ⟨i5, hi5, ha5, hb5, hc5⟩ := info_parts info5x
  have hz : (⟨s.toArray⟩ : ByteArray).size = s.length := bsz s
  have hxl : (Lib.byteCells l).length = n := by simp [Lib.byteCells, hn]
  have e1 : Lib.strCells ⟨s.toArray⟩ = Lib.byteCells s := by simp [Lib.strCells, Lib.byteCells]
  have hr := Lib.run_append_grow_string (P := Tryd.prog) w 31 9 o.type 5 i5 (.int .u8 0) Tryd.underlying31 Tryd.underlying9 hi5 ha5 ⟨g, 0, none⟩ n n (Lib.byteCells l) (by rw [hb5]; omega) hc ⟨s.toArray⟩ (by omega) (by omega) (by rw [hc5]; exact growslice_fits (by omega) (by omega))
  have hge := grownCap_ge w (n + (⟨s.toArray⟩ : ByteArray).size) n 5
  have hcm2 := grownCap_le_maxLen w (n + (⟨s.toArray⟩ : ByteArray).size) n 5 (by unfold maxLen; omega)
  refine wpList_plain hgd fun K hK => ?_
  unfold Oper.wp execOp
  simp only [ho, resolve, invoke, builtin, Sem.run_bind, Sem.run_pure, Result.andThen_ok, List.map_toArray, List.map_cons, List.map_nil, hs, hx, hr]
  refine hK _ _ (h _ _ ?_ ?_)
  · unfold BR
    rw [bcells_app, List.length_append, ← e1, ← hz, hn]
    have hlen : (Lib.byteCells l ++ Lib.strCells ⟨s.toArray⟩).length = (n + (⟨s.toArray⟩ : ByteArray).size) * 1 := by rw [List.length_append, hxl, e1, hz]; simp [Lib.byteCells]
    refine ⟨hlen, .inr ⟨w.heap.size, _, _, rfl, hbase, World.alloc_heap_new w.drew _, hge, hcm2, ?_, ?_⟩⟩
    · have hz1 : (Value.int IntKind.u8 0).cells.size = 1 := rfl
      have e2 : (Lib.strCells ⟨s.toArray⟩).length = (⟨s.toArray⟩ : ByteArray).size := by rw [e1, hz]; simp [Lib.byteCells]
      simp only [Array.size_append, List.size_toArray, size_zeroCells, hz1, hxl, e2]
      omega
    · simp only [Array.toList_append, List.append_assoc]
      rw [← List.append_assoc, ← hlen]
      exact List.take_left
  · exact ((Fr.refl B w).drew).trans (Fr.alloc (w := w.drew) hbase _)
set_option maxRecDepth 100000 in
set_option maxHeartbeats 4000000 in
theorem rlist_any (P : Pg) (v : PgV) (hab : abP P) (w : World) (h : PAt w P v) :
    Calls Tryd.prog 6 #[.agg #[.int .i64 P.words, .int .i64 P.locals, .slice v.cp P.n v.cc, .slice v.ep P.m v.ec]] w fun e w' => (wrP P → e = .returned (bst (lsB P))) ∧ (¬ wrP P → e = .returned (bst [])) ∧ Fr w.heap.size w w' := by
  obtain ⟨B, hBB⟩ : ∃ B, w.heap.size = B := ⟨_, rfl⟩
  rw [hBB]
  obtain ⟨wb, hwb⟩ : ∃ wb, w.alloc (.cells #[.int .i64 P.words, .int .i64 P.locals, .slice v.cp P.n v.cc, .slice v.ep P.m v.ec] 25) = wb := ⟨_, rfl⟩
  have hb0 : Fr B w wb := by rw [← hwb]; exact Fr.alloc (by omega) _
  have hbox : wb.heap[w.heap.size]? = some (.cells #[.int .i64 P.words, .int .i64 P.locals, .slice v.cp P.n v.cc, .slice v.ep P.m v.ec] 25 (0, 0)) := by rw [← hwb]; exact World.alloc_heap_new w _
  have HW : Hid (w.alloc (.cells #[.int .i64 P.words, .int .i64 P.locals, .slice v.cp P.n v.cc, .slice v.ep P.m v.ec] 25) = wb) := hwb
  have hpb : PAt wb P v := h.below (by rw [hBB]; exact hb0.bel)
  have HCB := rwr_any P v wb hpb
  have hbs : B ≤ wb.heap.size := by have := hb0.size; omega
  obtain ⟨c0, c1, c2, c3⟩ := cells4 hbox
  have HP : Hid (∀ W, Fr B wb W → IAt W v.cp P.n P.op P.a P.b ∧ KAt W v.ep P.m P.en) := fun W hW => by
    have hq := h.below (W' := W) (by rw [hBB]; exact (hb0.trans hW).bel)
    exact ⟨hq.1, hq.2⟩
  have HZ : Hid (∀ W, Fr B wb W → (W.cell? ⟨B, 0, none⟩ = some (.int .i64 P.words) ∧ W.cell? ⟨B, 1, none⟩ = some (.int .i64 P.locals) ∧ W.cell? ⟨B, 2, none⟩ = some (.slice v.cp P.n v.cc) ∧ W.cell? ⟨B, 3, none⟩ = some (.slice v.ep P.m v.ec)) ∧ B ≤ W.heap.size) := fun W hW =>
    ⟨cells4 (hW.block (by rw [← hBB]; exact hbox) (by decide)), Nat.le_trans hbs hW.size⟩
  rw [← hwb] at c0 c1 c2 c3
  have H0 : Hid (Fr B w wb ∧ B ≤ wb.heap.size) := ⟨hb0, hbs⟩
  have HAB : Hid (abP P) := hab
  clear h hwb hb0 hbox hpb hbs hab
  by_cases hs : wrP P
  case neg =>
    have HS := hid hs
    clear hs
    go_enter Tryd.func6, Tryd.ntmps6
    go_wp2_with (go_at_call 13; rw [HW.out]; (with_reducible refine HCB.mono ?_); rintro r w1 ⟨bz, rfl, h5, h6⟩; obtain rfl : bz = false := (by cases bz; rfl; exact absurd (h5.1 rfl) HS.out); have H1 := hid h6; clear h5 h6)
    go_ret
    exact ⟨fun h9 => absurd h9 HS.out, fun _ => rfl, H0.out.1.trans (Fr.below H0.out.2 H1.out)⟩
  case pos =>
  have HS := hid hs
  clear hs
  have hsz := HS.out.1
  have HSG1 := refSigned_any P.words (by have := hsz.1; omega) (by have := hsz.1; omega)
  have HSG2 := refSigned_any P.locals (by have := hsz.2.1; omega) (by have := hsz.2.1; omega)
  have HLim : Hid ((Lib.itoa P.words).length ≤ 21 ∧ (Lib.itoa P.locals).length ≤ 21) := ⟨itoa_len _ (by have := hsz.1; omega) (by have := hsz.1; omega), itoa_len _ (by have := hsz.2.1; omega) (by have := hsz.2.1; omega)⟩
  clear hsz
  go_enter Tryd.func6, Tryd.ntmps6
  go_upto_region 3 with (go_at_call 13; rw [HW.out]; (with_reducible refine HCB.mono ?_); rintro r w1 ⟨bz, rfl, h5, h6⟩; obtain rfl : bz = true := h5.2 HS.out; have H1 : Hid (Fr B wb w1) := (Fr.below H0.out.2 h6); clear h5 h6)
  clear c0 c1 c2 c3 HCB HW hBB
  have kc := fun (w : World) (C : Array Value) (n c : Nat) => Lib.run_convert_bytes_const (P := Tryd.prog) w 31 5 C n c Tryd.underlying31 Tryd.underlying5
  go_upto_region 4 with fail
  clear kc
  obtain ⟨wa, hwa⟩ : ∃ wa, w1.alloc (.cells #[.int .u8 119, .int .u8 111, .int .u8 114, .int .u8 100, .int .u8 115, .int .u8 32] 5 (6, 7)) = wa := ⟨_, rfl⟩
  first | rw [hwa] | (have hwa2 : w1.alloc (.cells #[.int .u8 119, .int .u8 111, .int .u8 114, .int .u8 100, .int .u8 115, .int .u8 32] 5 (6, 6 + 1)) = wa := hwa; rw [hwa2])
  have SF : Hid (Fr B wb wa) := by rw [← hwa]; exact H1.out.trans (Fr.alloc (HZ.out w1 H1.out).2 _)
  have SM : Hid (wa.heap[w1.heap.size]? = some (.cells (Lib.byteCells [119, 111, 114, 100, 115, 32]).toArray 5 (6, 7))) := by rw [← hwa]; exact World.alloc_heap_new w1 _
  clear hwa
  obtain ⟨⟨c0, c1, c2, c3⟩, -⟩ := HZ.out wa SF.out
  go_upto_region 5 with (first | (go_at_call 14; (with_reducible refine (HSG1 _).mono ?_); rintro e9 w9 ⟨rfl, b9⟩; have SF := hid (SF.out.trans (Fr.below (HZ.out _ SF.out).2 b9)); have SM := hid ((b9.block _ (lt_of_block SM.out)).trans SM.out); clear b9) | (at_builtin; refine app_mark rfl _ _ rfl B w1.heap.size [119, 111, 114, 100, 115, 32] 6 rfl rfl (bcell_of SM.out) _ rfl (itoa_pos _) (by have z := HLim.out; omega) (HZ.out _ SF.out).2 ?_; intro v9 w9 b9 f9; have S := hid (And.intro b9 (SF.out.trans f9)); obtain ⟨⟨c0, c1, c2, c3⟩, -⟩ := HZ.out w9 S.out.2; clear b9 f9))
  clear SF SM
  go_upto_region 6 with (at_builtin; refine app_str rfl _ _ rfl B _ _ rfl S.out.1 [10, 108, 111, 99, 97, 108, 115, 32] rfl (by have z := HLim.out; simp only [List.length_append, List.length_cons, List.length_nil] at z ⊢; omega) (HZ.out _ S.out.2).2 ?_; intro v9 w9 b9 f9; have S := hid (And.intro b9 (S.out.2.trans f9)); obtain ⟨⟨c0, c1, c2, c3⟩, -⟩ := HZ.out w9 S.out.2; clear b9 f9)
  go_upto_region 7 with (first | (go_at_call 14; (with_reducible refine (HSG2 _).mono ?_); rintro e9 w9 ⟨rfl, b9⟩; have S := hid (And.intro (S.out.1.below b9) (S.out.2.trans (Fr.below (HZ.out _ S.out.2).2 b9))); obtain ⟨⟨c0, c1, c2, c3⟩, -⟩ := HZ.out w9 S.out.2; clear b9) | (at_builtin; refine app_str rfl _ _ rfl B _ _ rfl S.out.1 _ rfl (by have z := HLim.out; simp only [List.length_append, List.length_cons, List.length_nil] at z ⊢; omega) (HZ.out _ S.out.2).2 ?_; intro v9 w9 b9 f9; have S := hid (And.intro b9 (S.out.2.trans f9)); obtain ⟨⟨c0, c1, c2, c3⟩, -⟩ := HZ.out w9 S.out.2; clear b9 f9))
  go_upto_region 8 with (at_builtin; refine app_str rfl _ _ rfl B _ _ rfl S.out.1 [10, 101, 110, 116, 114, 121] rfl (by have z := HLim.out; simp only [List.length_append, List.length_cons, List.length_nil] at z ⊢; omega) (HZ.out _ S.out.2).2 ?_; intro v9 w9 b9 f9; have S := hid (And.intro b9 (S.out.2.trans f9)); obtain ⟨⟨c0, c1, c2, c3⟩, -⟩ := HZ.out w9 S.out.2; clear b9 f9)
  obtain ⟨L0, hL0⟩ : ∃ L0, hdB P = L0 := ⟨_, rfl⟩
  have l0 : L0.length ≤ 70 := by rw [← hL0]; exact hdB_len HS.out.1
  have S1 : Hid (BR B w9 v9 L0 ∧ Fr B wb w9) := ⟨by rw [← hL0]; simpa [hdB, numB] using S.out.1, S.out.2⟩
  have HL0 := hid hL0
  have HLim0 := HLim
  clear S HLim HSG1 HSG2 c0 c1 c2 c3 hL0
  go_wp2_with fail
  go_loopw [3, 4] (fun x y wr => ∃ j : Nat, y = .int .i64 (j : Int) ∧ j ≤ P.m ∧ BR B wr x (L0 ++ enB P.en j) ∧ Fr B wb wr) (fun _ y _ => P.m - (intOf y).toNat)
  case atStart => exact ⟨0, rfl, Nat.zero_le _, by simpa [enB] using S1.out.1, S1.out.2⟩
  case round =>
  obtain ⟨j, rfl, hj, hb, hfr⟩ := hrel
  clear S1 HLim0
  have S : Hid (BR B wr u3 (L0 ++ enB P.en j) ∧ Fr B wb wr) := ⟨hb, hfr⟩
  have hen := enB_len (e := P.en) (m := P.m) HS.out.2.1 j hj
  have hm32 := HS.out.1.2.2.2
  obtain ⟨⟨c0, c1, c2, c3⟩, -⟩ := HZ.out wr S.out.2
  clear hb hfr
  by_cases hlt : j < P.m
  case pos =>
    have dlt : decide ((j : Int) < (P.m : Int)) = true := by simp; omega
    have hme := vmeas hlt
    have ei : IntKind.i64.wrap ((j : Int) + 1) = (j : Int) + 1 := by rw [IntKind.wrap_i64]; omega
    have i0 : (0 : Int) ≤ (j : Int) := by omega
    have i1 : (j : Int) < (P.m : Int) := by omega
    have hej := HS.out.2.1 j hlt
    have hst : enB P.en (j + 1) = enB P.en j ++ (32 :: (if P.en j = -1 then [45] else Lib.itoa (P.en j))) := rfl
    obtain ⟨ej, hee⟩ : ∃ ej, P.en j = ej := ⟨_, rfl⟩
    rw [hee] at hej hst
    have HST := hid hst
    have HSG := refSigned_any ej (by omega) (by omega)
    have HLim : Hid (L0.length ≤ 70 ∧ (enB P.en j).length ≤ 1000 ∧ (Lib.itoa ej).length ≤ 21) := ⟨l0, by omega, itoa_len _ (by omega) (by omega)⟩
    obtain ⟨z, hz⟩ : ∃ z, v.ep = z := ⟨_, rfl⟩
    have HK : Hid (∀ W, Fr B wb W → ∃ g o, z = some ⟨g, o, none⟩ ∧ W.cell? ⟨g, o + j, none⟩ = some (.int .i64 ej)) := fun W hW => by
      rcases (HP.out W hW).2 with h0 | ⟨g, o, hq, _, hc⟩
      · omega
      · exact ⟨g, o, by rw [← hz]; exact hq, by rw [← hee]; exact hc j hlt⟩
    obtain ⟨g, o, hq, -⟩ := HK.out wr S.out.2
    subst hq
    have HK2 : Hid (∀ W, Fr B wb W → W.cell? ⟨g, o + j, none⟩ = some (.int .i64 ej)) := fun W hW => by
      obtain ⟨g', o', hq, hc⟩ := HK.out W hW
      simp only [Option.some.injEq, Addr.mk.injEq, and_true] at hq
      rw [hq.1, hq.2]
      exact hc
    have HV := hid hz
    have HLT := hid hlt
    clear hst hee hen hm32 HK hlt hj hz
    rw [HV.out] at c3
    go_upto_region 12 with (at_builtin; refine app_one rfl _ _ rfl B _ _ rfl S.out.1 32 32 rfl rfl (by have z := HLim.out; simp only [List.length_append, List.length_cons, List.length_nil] at z ⊢; omega) (HZ.out _ S.out.2).2 ?_; intro v9 w9 b9 f9; have S := hid (And.intro b9 (S.out.2.trans f9)); obtain ⟨⟨c0, c1, c2, c3⟩, -⟩ := HZ.out w9 S.out.2; clear b9 f9)
    rw [HV.out] at c3
    have y0 := HK2.out w9 S.out.2
    by_cases h1 : ej < 0
    · have d1 : decide (ej < 0) = true := decide_eq_true h1
      have h2 : ej = -1 := by omega
      clear h1 hej
      go_wp2_with (at_builtin; refine app_one rfl _ _ rfl B _ _ rfl S.out.1 45 45 rfl rfl (by have z := HLim.out; simp only [List.length_append, List.length_cons, List.length_nil] at z ⊢; omega) (HZ.out _ S.out.2).2 ?_; intro v9 w9 b9 f9; have S := hid (And.intro b9 (S.out.2.trans f9)); obtain ⟨⟨c0, c1, c2, c3⟩, -⟩ := HZ.out w9 S.out.2; clear b9 f9)
      exact ⟨⟨j + 1, rfl, HLT.out, by rw [HST.out, if_pos h2]; simpa using S.out.1, S.out.2⟩, hme⟩
    · have d1 : decide (ej < 0) = false := decide_eq_false h1
      have h2 : ¬ ej = -1 := by omega
      clear h1 hej
      go_wp2_with (first | (go_at_call 14; (with_reducible refine (HSG _).mono ?_); rintro e9 w9 ⟨rfl, b9⟩; have S := hid (And.intro (S.out.1.below b9) (S.out.2.trans (Fr.below (HZ.out _ S.out.2).2 b9))); obtain ⟨⟨c0, c1, c2, c3⟩, -⟩ := HZ.out w9 S.out.2; have y0 := HK2.out w9 S.out.2; clear b9) | (at_builtin; refine app_str rfl _ _ rfl B _ _ rfl S.out.1 _ rfl (by have z := HLim.out; simp only [List.length_append, List.length_cons, List.length_nil] at z ⊢; omega) (HZ.out _ S.out.2).2 ?_; intro v9 w9 b9 f9; have S := hid (And.intro b9 (S.out.2.trans f9)); obtain ⟨⟨c0, c1, c2, c3⟩, -⟩ := HZ.out w9 S.out.2; clear b9 f9))
      exact ⟨⟨j + 1, rfl, HLT.out, by rw [HST.out, if_neg h2]; simpa using S.out.1, S.out.2⟩, hme⟩
  case neg =>
  have dlt : decide ((j : Int) < (P.m : Int)) = false := by simp; omega
  obtain rfl : j = P.m := by omega
  have HLim : Hid (L0.length ≤ 70 ∧ (enB P.en P.m).length ≤ 1000) := ⟨l0, by omega⟩
  clear hen hm32
  go_upto_region 16 with (at_builtin; refine app_one rfl _ _ rfl B _ _ rfl S.out.1 10 10 rfl rfl (by have z := HLim.out; simp only [List.length_append, List.length_cons, List.length_nil] at z ⊢; omega) (HZ.out _ S.out.2).2 ?_; intro v9 w9 b9 f9; have S := hid (And.intro b9 (S.out.2.trans f9)); obtain ⟨⟨c0, c1, c2, c3⟩, -⟩ := HZ.out w9 S.out.2; clear b9 f9)
  obtain ⟨L, hL⟩ : ∃ L, L0 ++ enB P.en P.m ++ [10] = L := ⟨_, rfl⟩
  have HL4 : Hid (L.length ≤ 2000) := by
    have z := HLim.out
    rw [← hL]
    simp only [List.length_append, List.length_singleton]
    show _ ≤ _
    omega
  rw [hL] at S
  have S2 := S
  have HL : Hid (lsB P = L ++ coB P P.n) := by rw [← hL, ← HL0.out]; rfl
  clear S HLim c0 c1 c2 c3 hL HL0 l0
  go_wp2_with fail
  go_loopw [3, 5] (fun x y wr => ∃ j : Nat, y = .int .i64 (j : Int) ∧ j ≤ P.n ∧ BR B wr x (L ++ coB P j) ∧ Fr B wb wr) (fun _ y _ => P.n - (intOf y).toNat)
  case atStart => exact ⟨0, rfl, Nat.zero_le _, by simpa [coB] using S2.out.1, S2.out.2⟩
  case round =>
  obtain ⟨j, rfl, hj, hb, hfr⟩ := hrel
  clear S2
  have hsz := HS.out.1.2.2.1
  obtain ⟨⟨c0, c1, c2, c3⟩, -⟩ := HZ.out wr hfr
  by_cases hlt : j < P.n
  case pos =>
    have dlt : decide ((j : Int) < (P.n : Int)) = true := by simp; omega
    have hme := vmeas hlt
    have ei : IntKind.i64.wrap ((j : Int) + 1) = (j : Int) + 1 := by rw [IntKind.wrap_i64]; omega
    have i0 : (0 : Int) ≤ (j : Int) := by omega
    have i1 : (j : Int) < (P.n : Int) := by omega
    rcases (HP.out wr hfr).1 with h0 | ⟨g, o, hq, _, hc⟩
    · omega
    obtain ⟨y0, y1, y2⟩ := hc j hlt
    rw [hq] at c2
    have hop := HS.out.2.2 j hlt
    obtain ⟨ok, hok⟩ : ∃ ok : Nat, P.op j = (ok : Int) := ⟨(P.op j).toNat, by omega⟩
    obtain ⟨aj, haj⟩ : ∃ aj, P.a j = aj := ⟨_, rfl⟩
    obtain ⟨bj, hbj⟩ : ∃ bj, P.b j = bj := ⟨_, rfl⟩
    have hab := HAB.out j hlt
    have hco : coB P (j + 1) = coB P j ++ lnB ok aj bj := by rw [← haj, ← hbj, ← hok]; rfl
    rw [hok] at y0 hop
    rw [haj] at y1 hab
    rw [hbj] at y2 hab
    have HLim : Hid (L.length ≤ 2000 ∧ (coB P j).length ≤ 1000000 ∧ (nm ok).length ≤ 5 ∧ (Lib.itoa aj).length ≤ 21 ∧ (Lib.itoa bj).length ≤ 21) := by
      have z1 := coB_len (P := P) HAB.out j hj
      exact ⟨HL4.out, by omega, nm_len ok, itoa_len aj hab.1.1 (by have := hab.1.2; omega), itoa_len bj hab.2.1 (by have := hab.2.2; omega)⟩
    have HSA := refSigned_any aj hab.1.1 (by have := hab.1.2; omega)
    have HSB := refSigned_any bj hab.2.1 (by have := hab.2.2; omega)
    have HWN := rwants_any ok hop
    have HCL := called_any ok (by omega)
    have HCO := hid hco
    have HX : Hid (BR B wr u3 (L ++ coB P j) ∧ Fr B wb wr ∧ B ≤ wr.heap.size) := ⟨hb, hfr, (HZ.out wr hfr).2⟩
    have HLT := hid hlt
    clear hb hfr hc hq hok haj hbj hco hsz hab hlt hj c0 c1 c3
    go_upto_region 20 with fail
    clear c2 y0 y1 y2
    obtain ⟨wz, hwz⟩ : ∃ wz, wr.alloc (.cells #[.int .i64 (ok : Int), .int .i64 aj, .int .i64 bj] 35) = wz := ⟨_, rfl⟩
    rw [hwz]
    have HB8 : Hid (Fr B wb wz) := by rw [← hwz]; exact HX.out.2.1.trans (Fr.alloc HX.out.2.2 _)
    have HZ0 := HZ
    clear HZ
    have HZ : Hid (∀ W, Fr B wz W → (W.cell? ⟨wr.heap.size, 0, none⟩ = some (.int .i64 (ok : Int)) ∧ W.cell? ⟨wr.heap.size, 1, none⟩ = some (.int .i64 aj) ∧ W.cell? ⟨wr.heap.size, 2, none⟩ = some (.int .i64 bj)) ∧ B ≤ W.heap.size) := fun W hW => by
      have hz2 : wz.heap[wr.heap.size]? = some (.cells #[.int .i64 (ok : Int), .int .i64 aj, .int .i64 bj] 35 (0, 0)) := by rw [← hwz]; exact World.alloc_heap_new wr _
      exact ⟨cells3v (hW.block hz2 (by decide)), (HZ0.out W (HB8.out.trans hW)).2⟩
    have S : Hid (BR B wz u3 (L ++ coB P j) ∧ Fr B wz wz) := ⟨by rw [← hwz]; exact HX.out.1.alloc _, Fr.refl _ _⟩
    obtain ⟨⟨q0, q1, q2⟩, -⟩ := HZ.out wz S.out.2
    clear hwz HX
    go_upto_region 21 with (first | (go_at_call 15; (with_reducible refine (HCL _).mono ?_); rintro e9 w9 ⟨rfl, b9⟩; have S := hid (And.intro (S.out.1.below b9) (S.out.2.trans (Fr.below (HZ.out _ S.out.2).2 b9))); obtain ⟨⟨q0, q1, q2⟩, -⟩ := HZ.out w9 S.out.2; clear b9) | (at_builtin; refine app_str rfl _ _ rfl B _ _ rfl S.out.1 _ rfl (by have z := HLim.out; simp only [List.length_append, List.length_cons, List.length_nil] at z ⊢; omega) (HZ.out _ S.out.2).2 ?_; intro v9 w9 b9 f9; have S := hid (And.intro b9 (S.out.2.trans f9)); obtain ⟨⟨q0, q1, q2⟩, -⟩ := HZ.out w9 S.out.2; clear b9 f9))
    have htl : tlN ok aj bj = if bj ≠ 0 then 2 else if aj ≠ 0 then (max 1 (wantsI ok)).toNat else (wantsI ok).toNat := rfl
    have hwl := wantsI_le ok
    obtain ⟨r, hr⟩ : ∃ r, wantsI ok = r := ⟨_, rfl⟩
    rw [hr] at htl hwl HWN
    have HTL := hid htl
    clear htl hr hop
    by_cases hb : bj = 0
    · have eb1 : (bj != 0) = false := by simpa using hb
      have eb2 : (bj == 0) = true := by simpa using hb
      by_cases ha : aj = 0
      · have ea1 : (aj != 0) = false := by simpa using ha
        have ea2 : (aj == 0) = true := by simpa using ha
        rcases (by omega : r = 0 ∨ r = 1 ∨ r = 2) with rfl | rfl | rfl
        · skip
          have htl : tlN ok aj bj = 0 := by rw [HTL.out]; rw [if_neg (by simp [hb]), if_neg (by simp [ha])]; rfl
          clear hwl ha hb
          go_wp2_with (first | (go_at_call 16; (with_reducible refine (HWN _).mono ?_); rintro e9 w9 ⟨rfl, rfl⟩) | (go_at_call 14; (with_reducible refine (HSA _).mono ?_); rintro e9 w9 ⟨rfl, b9⟩; have S := hid (And.intro (S.out.1.below b9) (S.out.2.trans (Fr.below (HZ.out _ S.out.2).2 b9))); obtain ⟨⟨q0, q1, q2⟩, -⟩ := HZ.out w9 S.out.2; clear b9) | (go_at_call 14; (with_reducible refine (HSB _).mono ?_); rintro e9 w9 ⟨rfl, b9⟩; have S := hid (And.intro (S.out.1.below b9) (S.out.2.trans (Fr.below (HZ.out _ S.out.2).2 b9))); obtain ⟨⟨q0, q1, q2⟩, -⟩ := HZ.out w9 S.out.2; clear b9) | (at_builtin; refine app_str rfl _ _ rfl B _ _ rfl S.out.1 _ rfl (by have z := HLim.out; simp only [List.length_append, List.length_cons, List.length_nil] at z ⊢; omega) (HZ.out _ S.out.2).2 ?_; intro v9 w9 b9 f9; have S := hid (And.intro b9 (S.out.2.trans f9)); obtain ⟨⟨q0, q1, q2⟩, -⟩ := HZ.out w9 S.out.2; clear b9 f9) | (at_builtin; refine app_one rfl _ _ rfl B _ _ rfl S.out.1 32 32 rfl rfl (by have z := HLim.out; simp only [List.length_append, List.length_cons, List.length_nil] at z ⊢; omega) (HZ.out _ S.out.2).2 ?_; intro v9 w9 b9 f9; have S := hid (And.intro b9 (S.out.2.trans f9)); obtain ⟨⟨q0, q1, q2⟩, -⟩ := HZ.out w9 S.out.2; clear b9 f9) | (at_builtin; refine app_one rfl _ _ rfl B _ _ rfl S.out.1 10 10 rfl rfl (by have z := HLim.out; simp only [List.length_append, List.length_cons, List.length_nil] at z ⊢; omega) (HZ.out _ S.out.2).2 ?_; intro v9 w9 b9 f9; have S := hid (And.intro b9 (S.out.2.trans f9)); obtain ⟨⟨q0, q1, q2⟩, -⟩ := HZ.out w9 S.out.2; clear b9 f9))
          exact ⟨⟨j + 1, rfl, HLT.out, by rw [HCO.out, lnB_0 htl]; simpa using S.out.1, HB8.out.trans S.out.2⟩, hme⟩
        · skip
          have htl : tlN ok aj bj = 1 := by rw [HTL.out]; rw [if_neg (by simp [hb]), if_neg (by simp [ha])]; rfl
          clear hwl ha hb
          go_wp2_with (first | (go_at_call 16; (with_reducible refine (HWN _).mono ?_); rintro e9 w9 ⟨rfl, rfl⟩) | (go_at_call 14; (with_reducible refine (HSA _).mono ?_); rintro e9 w9 ⟨rfl, b9⟩; have S := hid (And.intro (S.out.1.below b9) (S.out.2.trans (Fr.below (HZ.out _ S.out.2).2 b9))); obtain ⟨⟨q0, q1, q2⟩, -⟩ := HZ.out w9 S.out.2; clear b9) | (go_at_call 14; (with_reducible refine (HSB _).mono ?_); rintro e9 w9 ⟨rfl, b9⟩; have S := hid (And.intro (S.out.1.below b9) (S.out.2.trans (Fr.below (HZ.out _ S.out.2).2 b9))); obtain ⟨⟨q0, q1, q2⟩, -⟩ := HZ.out w9 S.out.2; clear b9) | (at_builtin; refine app_str rfl _ _ rfl B _ _ rfl S.out.1 _ rfl (by have z := HLim.out; simp only [List.length_append, List.length_cons, List.length_nil] at z ⊢; omega) (HZ.out _ S.out.2).2 ?_; intro v9 w9 b9 f9; have S := hid (And.intro b9 (S.out.2.trans f9)); obtain ⟨⟨q0, q1, q2⟩, -⟩ := HZ.out w9 S.out.2; clear b9 f9) | (at_builtin; refine app_one rfl _ _ rfl B _ _ rfl S.out.1 32 32 rfl rfl (by have z := HLim.out; simp only [List.length_append, List.length_cons, List.length_nil] at z ⊢; omega) (HZ.out _ S.out.2).2 ?_; intro v9 w9 b9 f9; have S := hid (And.intro b9 (S.out.2.trans f9)); obtain ⟨⟨q0, q1, q2⟩, -⟩ := HZ.out w9 S.out.2; clear b9 f9) | (at_builtin; refine app_one rfl _ _ rfl B _ _ rfl S.out.1 10 10 rfl rfl (by have z := HLim.out; simp only [List.length_append, List.length_cons, List.length_nil] at z ⊢; omega) (HZ.out _ S.out.2).2 ?_; intro v9 w9 b9 f9; have S := hid (And.intro b9 (S.out.2.trans f9)); obtain ⟨⟨q0, q1, q2⟩, -⟩ := HZ.out w9 S.out.2; clear b9 f9))
          exact ⟨⟨j + 1, rfl, HLT.out, by rw [HCO.out, lnB_1 htl]; simpa using S.out.1, HB8.out.trans S.out.2⟩, hme⟩
        · skip
          have htl : tlN ok aj bj = 2 := by rw [HTL.out]; rw [if_neg (by simp [hb]), if_neg (by simp [ha])]; rfl
          clear hwl ha hb
          go_wp2_with (first | (go_at_call 16; (with_reducible refine (HWN _).mono ?_); rintro e9 w9 ⟨rfl, rfl⟩) | (go_at_call 14; (with_reducible refine (HSA _).mono ?_); rintro e9 w9 ⟨rfl, b9⟩; have S := hid (And.intro (S.out.1.below b9) (S.out.2.trans (Fr.below (HZ.out _ S.out.2).2 b9))); obtain ⟨⟨q0, q1, q2⟩, -⟩ := HZ.out w9 S.out.2; clear b9) | (go_at_call 14; (with_reducible refine (HSB _).mono ?_); rintro e9 w9 ⟨rfl, b9⟩; have S := hid (And.intro (S.out.1.below b9) (S.out.2.trans (Fr.below (HZ.out _ S.out.2).2 b9))); obtain ⟨⟨q0, q1, q2⟩, -⟩ := HZ.out w9 S.out.2; clear b9) | (at_builtin; refine app_str rfl _ _ rfl B _ _ rfl S.out.1 _ rfl (by have z := HLim.out; simp only [List.length_append, List.length_cons, List.length_nil] at z ⊢; omega) (HZ.out _ S.out.2).2 ?_; intro v9 w9 b9 f9; have S := hid (And.intro b9 (S.out.2.trans f9)); obtain ⟨⟨q0, q1, q2⟩, -⟩ := HZ.out w9 S.out.2; clear b9 f9) | (at_builtin; refine app_one rfl _ _ rfl B _ _ rfl S.out.1 32 32 rfl rfl (by have z := HLim.out; simp only [List.length_append, List.length_cons, List.length_nil] at z ⊢; omega) (HZ.out _ S.out.2).2 ?_; intro v9 w9 b9 f9; have S := hid (And.intro b9 (S.out.2.trans f9)); obtain ⟨⟨q0, q1, q2⟩, -⟩ := HZ.out w9 S.out.2; clear b9 f9) | (at_builtin; refine app_one rfl _ _ rfl B _ _ rfl S.out.1 10 10 rfl rfl (by have z := HLim.out; simp only [List.length_append, List.length_cons, List.length_nil] at z ⊢; omega) (HZ.out _ S.out.2).2 ?_; intro v9 w9 b9 f9; have S := hid (And.intro b9 (S.out.2.trans f9)); obtain ⟨⟨q0, q1, q2⟩, -⟩ := HZ.out w9 S.out.2; clear b9 f9))
          exact ⟨⟨j + 1, rfl, HLT.out, by rw [HCO.out, lnB_2 htl]; simpa using S.out.1, HB8.out.trans S.out.2⟩, hme⟩
      · have ea1 : (aj != 0) = true := by simpa using ha
        have ea2 : (aj == 0) = false := by simpa using ha
        rcases (by omega : r = 0 ∨ r = 1 ∨ r = 2) with rfl | rfl | rfl
        · skip
          have htl : tlN ok aj bj = 1 := by rw [HTL.out]; rw [if_neg (by simp [hb]), if_pos ha]; rfl
          clear hwl ha hb
          go_wp2_with (first | (go_at_call 16; (with_reducible refine (HWN _).mono ?_); rintro e9 w9 ⟨rfl, rfl⟩) | (go_at_call 14; (with_reducible refine (HSA _).mono ?_); rintro e9 w9 ⟨rfl, b9⟩; have S := hid (And.intro (S.out.1.below b9) (S.out.2.trans (Fr.below (HZ.out _ S.out.2).2 b9))); obtain ⟨⟨q0, q1, q2⟩, -⟩ := HZ.out w9 S.out.2; clear b9) | (go_at_call 14; (with_reducible refine (HSB _).mono ?_); rintro e9 w9 ⟨rfl, b9⟩; have S := hid (And.intro (S.out.1.below b9) (S.out.2.trans (Fr.below (HZ.out _ S.out.2).2 b9))); obtain ⟨⟨q0, q1, q2⟩, -⟩ := HZ.out w9 S.out.2; clear b9) | (at_builtin; refine app_str rfl _ _ rfl B _ _ rfl S.out.1 _ rfl (by have z := HLim.out; simp only [List.length_append, List.length_cons, List.length_nil] at z ⊢; omega) (HZ.out _ S.out.2).2 ?_; intro v9 w9 b9 f9; have S := hid (And.intro b9 (S.out.2.trans f9)); obtain ⟨⟨q0, q1, q2⟩, -⟩ := HZ.out w9 S.out.2; clear b9 f9) | (at_builtin; refine app_one rfl _ _ rfl B _ _ rfl S.out.1 32 32 rfl rfl (by have z := HLim.out; simp only [List.length_append, List.length_cons, List.length_nil] at z ⊢; omega) (HZ.out _ S.out.2).2 ?_; intro v9 w9 b9 f9; have S := hid (And.intro b9 (S.out.2.trans f9)); obtain ⟨⟨q0, q1, q2⟩, -⟩ := HZ.out w9 S.out.2; clear b9 f9) | (at_builtin; refine app_one rfl _ _ rfl B _ _ rfl S.out.1 10 10 rfl rfl (by have z := HLim.out; simp only [List.length_append, List.length_cons, List.length_nil] at z ⊢; omega) (HZ.out _ S.out.2).2 ?_; intro v9 w9 b9 f9; have S := hid (And.intro b9 (S.out.2.trans f9)); obtain ⟨⟨q0, q1, q2⟩, -⟩ := HZ.out w9 S.out.2; clear b9 f9))
          exact ⟨⟨j + 1, rfl, HLT.out, by rw [HCO.out, lnB_1 htl]; simpa using S.out.1, HB8.out.trans S.out.2⟩, hme⟩
        · skip
          have htl : tlN ok aj bj = 1 := by rw [HTL.out]; rw [if_neg (by simp [hb]), if_pos ha]; rfl
          clear hwl ha hb
          go_wp2_with (first | (go_at_call 16; (with_reducible refine (HWN _).mono ?_); rintro e9 w9 ⟨rfl, rfl⟩) | (go_at_call 14; (with_reducible refine (HSA _).mono ?_); rintro e9 w9 ⟨rfl, b9⟩; have S := hid (And.intro (S.out.1.below b9) (S.out.2.trans (Fr.below (HZ.out _ S.out.2).2 b9))); obtain ⟨⟨q0, q1, q2⟩, -⟩ := HZ.out w9 S.out.2; clear b9) | (go_at_call 14; (with_reducible refine (HSB _).mono ?_); rintro e9 w9 ⟨rfl, b9⟩; have S := hid (And.intro (S.out.1.below b9) (S.out.2.trans (Fr.below (HZ.out _ S.out.2).2 b9))); obtain ⟨⟨q0, q1, q2⟩, -⟩ := HZ.out w9 S.out.2; clear b9) | (at_builtin; refine app_str rfl _ _ rfl B _ _ rfl S.out.1 _ rfl (by have z := HLim.out; simp only [List.length_append, List.length_cons, List.length_nil] at z ⊢; omega) (HZ.out _ S.out.2).2 ?_; intro v9 w9 b9 f9; have S := hid (And.intro b9 (S.out.2.trans f9)); obtain ⟨⟨q0, q1, q2⟩, -⟩ := HZ.out w9 S.out.2; clear b9 f9) | (at_builtin; refine app_one rfl _ _ rfl B _ _ rfl S.out.1 32 32 rfl rfl (by have z := HLim.out; simp only [List.length_append, List.length_cons, List.length_nil] at z ⊢; omega) (HZ.out _ S.out.2).2 ?_; intro v9 w9 b9 f9; have S := hid (And.intro b9 (S.out.2.trans f9)); obtain ⟨⟨q0, q1, q2⟩, -⟩ := HZ.out w9 S.out.2; clear b9 f9) | (at_builtin; refine app_one rfl _ _ rfl B _ _ rfl S.out.1 10 10 rfl rfl (by have z := HLim.out; simp only [List.length_append, List.length_cons, List.length_nil] at z ⊢; omega) (HZ.out _ S.out.2).2 ?_; intro v9 w9 b9 f9; have S := hid (And.intro b9 (S.out.2.trans f9)); obtain ⟨⟨q0, q1, q2⟩, -⟩ := HZ.out w9 S.out.2; clear b9 f9))
          exact ⟨⟨j + 1, rfl, HLT.out, by rw [HCO.out, lnB_1 htl]; simpa using S.out.1, HB8.out.trans S.out.2⟩, hme⟩
        · skip
          have htl : tlN ok aj bj = 2 := by rw [HTL.out]; rw [if_neg (by simp [hb]), if_pos ha]; rfl
          clear hwl ha hb
          go_wp2_with (first | (go_at_call 16; (with_reducible refine (HWN _).mono ?_); rintro e9 w9 ⟨rfl, rfl⟩) | (go_at_call 14; (with_reducible refine (HSA _).mono ?_); rintro e9 w9 ⟨rfl, b9⟩; have S := hid (And.intro (S.out.1.below b9) (S.out.2.trans (Fr.below (HZ.out _ S.out.2).2 b9))); obtain ⟨⟨q0, q1, q2⟩, -⟩ := HZ.out w9 S.out.2; clear b9) | (go_at_call 14; (with_reducible refine (HSB _).mono ?_); rintro e9 w9 ⟨rfl, b9⟩; have S := hid (And.intro (S.out.1.below b9) (S.out.2.trans (Fr.below (HZ.out _ S.out.2).2 b9))); obtain ⟨⟨q0, q1, q2⟩, -⟩ := HZ.out w9 S.out.2; clear b9) | (at_builtin; refine app_str rfl _ _ rfl B _ _ rfl S.out.1 _ rfl (by have z := HLim.out; simp only [List.length_append, List.length_cons, List.length_nil] at z ⊢; omega) (HZ.out _ S.out.2).2 ?_; intro v9 w9 b9 f9; have S := hid (And.intro b9 (S.out.2.trans f9)); obtain ⟨⟨q0, q1, q2⟩, -⟩ := HZ.out w9 S.out.2; clear b9 f9) | (at_builtin; refine app_one rfl _ _ rfl B _ _ rfl S.out.1 32 32 rfl rfl (by have z := HLim.out; simp only [List.length_append, List.length_cons, List.length_nil] at z ⊢; omega) (HZ.out _ S.out.2).2 ?_; intro v9 w9 b9 f9; have S := hid (And.intro b9 (S.out.2.trans f9)); obtain ⟨⟨q0, q1, q2⟩, -⟩ := HZ.out w9 S.out.2; clear b9 f9) | (at_builtin; refine app_one rfl _ _ rfl B _ _ rfl S.out.1 10 10 rfl rfl (by have z := HLim.out; simp only [List.length_append, List.length_cons, List.length_nil] at z ⊢; omega) (HZ.out _ S.out.2).2 ?_; intro v9 w9 b9 f9; have S := hid (And.intro b9 (S.out.2.trans f9)); obtain ⟨⟨q0, q1, q2⟩, -⟩ := HZ.out w9 S.out.2; clear b9 f9))
          exact ⟨⟨j + 1, rfl, HLT.out, by rw [HCO.out, lnB_2 htl]; simpa using S.out.1, HB8.out.trans S.out.2⟩, hme⟩
    · have eb1 : (bj != 0) = true := by simpa using hb
      have eb2 : (bj == 0) = false := by simpa using hb
      by_cases ha : aj = 0
      · have ea1 : (aj != 0) = false := by simpa using ha
        have ea2 : (aj == 0) = true := by simpa using ha
        rcases (by omega : r = 0 ∨ r = 1 ∨ r = 2) with rfl | rfl | rfl
        · skip
          have htl : tlN ok aj bj = 2 := by rw [HTL.out]; rw [if_pos hb]
          clear hwl ha hb
          go_wp2_with (first | (go_at_call 16; (with_reducible refine (HWN _).mono ?_); rintro e9 w9 ⟨rfl, rfl⟩) | (go_at_call 14; (with_reducible refine (HSA _).mono ?_); rintro e9 w9 ⟨rfl, b9⟩; have S := hid (And.intro (S.out.1.below b9) (S.out.2.trans (Fr.below (HZ.out _ S.out.2).2 b9))); obtain ⟨⟨q0, q1, q2⟩, -⟩ := HZ.out w9 S.out.2; clear b9) | (go_at_call 14; (with_reducible refine (HSB _).mono ?_); rintro e9 w9 ⟨rfl, b9⟩; have S := hid (And.intro (S.out.1.below b9) (S.out.2.trans (Fr.below (HZ.out _ S.out.2).2 b9))); obtain ⟨⟨q0, q1, q2⟩, -⟩ := HZ.out w9 S.out.2; clear b9) | (at_builtin; refine app_str rfl _ _ rfl B _ _ rfl S.out.1 _ rfl (by have z := HLim.out; simp only [List.length_append, List.length_cons, List.length_nil] at z ⊢; omega) (HZ.out _ S.out.2).2 ?_; intro v9 w9 b9 f9; have S := hid (And.intro b9 (S.out.2.trans f9)); obtain ⟨⟨q0, q1, q2⟩, -⟩ := HZ.out w9 S.out.2; clear b9 f9) | (at_builtin; refine app_one rfl _ _ rfl B _ _ rfl S.out.1 32 32 rfl rfl (by have z := HLim.out; simp only [List.length_append, List.length_cons, List.length_nil] at z ⊢; omega) (HZ.out _ S.out.2).2 ?_; intro v9 w9 b9 f9; have S := hid (And.intro b9 (S.out.2.trans f9)); obtain ⟨⟨q0, q1, q2⟩, -⟩ := HZ.out w9 S.out.2; clear b9 f9) | (at_builtin; refine app_one rfl _ _ rfl B _ _ rfl S.out.1 10 10 rfl rfl (by have z := HLim.out; simp only [List.length_append, List.length_cons, List.length_nil] at z ⊢; omega) (HZ.out _ S.out.2).2 ?_; intro v9 w9 b9 f9; have S := hid (And.intro b9 (S.out.2.trans f9)); obtain ⟨⟨q0, q1, q2⟩, -⟩ := HZ.out w9 S.out.2; clear b9 f9))
          exact ⟨⟨j + 1, rfl, HLT.out, by rw [HCO.out, lnB_2 htl]; simpa using S.out.1, HB8.out.trans S.out.2⟩, hme⟩
        · skip
          have htl : tlN ok aj bj = 2 := by rw [HTL.out]; rw [if_pos hb]
          clear hwl ha hb
          go_wp2_with (first | (go_at_call 16; (with_reducible refine (HWN _).mono ?_); rintro e9 w9 ⟨rfl, rfl⟩) | (go_at_call 14; (with_reducible refine (HSA _).mono ?_); rintro e9 w9 ⟨rfl, b9⟩; have S := hid (And.intro (S.out.1.below b9) (S.out.2.trans (Fr.below (HZ.out _ S.out.2).2 b9))); obtain ⟨⟨q0, q1, q2⟩, -⟩ := HZ.out w9 S.out.2; clear b9) | (go_at_call 14; (with_reducible refine (HSB _).mono ?_); rintro e9 w9 ⟨rfl, b9⟩; have S := hid (And.intro (S.out.1.below b9) (S.out.2.trans (Fr.below (HZ.out _ S.out.2).2 b9))); obtain ⟨⟨q0, q1, q2⟩, -⟩ := HZ.out w9 S.out.2; clear b9) | (at_builtin; refine app_str rfl _ _ rfl B _ _ rfl S.out.1 _ rfl (by have z := HLim.out; simp only [List.length_append, List.length_cons, List.length_nil] at z ⊢; omega) (HZ.out _ S.out.2).2 ?_; intro v9 w9 b9 f9; have S := hid (And.intro b9 (S.out.2.trans f9)); obtain ⟨⟨q0, q1, q2⟩, -⟩ := HZ.out w9 S.out.2; clear b9 f9) | (at_builtin; refine app_one rfl _ _ rfl B _ _ rfl S.out.1 32 32 rfl rfl (by have z := HLim.out; simp only [List.length_append, List.length_cons, List.length_nil] at z ⊢; omega) (HZ.out _ S.out.2).2 ?_; intro v9 w9 b9 f9; have S := hid (And.intro b9 (S.out.2.trans f9)); obtain ⟨⟨q0, q1, q2⟩, -⟩ := HZ.out w9 S.out.2; clear b9 f9) | (at_builtin; refine app_one rfl _ _ rfl B _ _ rfl S.out.1 10 10 rfl rfl (by have z := HLim.out; simp only [List.length_append, List.length_cons, List.length_nil] at z ⊢; omega) (HZ.out _ S.out.2).2 ?_; intro v9 w9 b9 f9; have S := hid (And.intro b9 (S.out.2.trans f9)); obtain ⟨⟨q0, q1, q2⟩, -⟩ := HZ.out w9 S.out.2; clear b9 f9))
          exact ⟨⟨j + 1, rfl, HLT.out, by rw [HCO.out, lnB_2 htl]; simpa using S.out.1, HB8.out.trans S.out.2⟩, hme⟩
        · skip
          have htl : tlN ok aj bj = 2 := by rw [HTL.out]; rw [if_pos hb]
          clear hwl ha hb
          go_wp2_with (first | (go_at_call 16; (with_reducible refine (HWN _).mono ?_); rintro e9 w9 ⟨rfl, rfl⟩) | (go_at_call 14; (with_reducible refine (HSA _).mono ?_); rintro e9 w9 ⟨rfl, b9⟩; have S := hid (And.intro (S.out.1.below b9) (S.out.2.trans (Fr.below (HZ.out _ S.out.2).2 b9))); obtain ⟨⟨q0, q1, q2⟩, -⟩ := HZ.out w9 S.out.2; clear b9) | (go_at_call 14; (with_reducible refine (HSB _).mono ?_); rintro e9 w9 ⟨rfl, b9⟩; have S := hid (And.intro (S.out.1.below b9) (S.out.2.trans (Fr.below (HZ.out _ S.out.2).2 b9))); obtain ⟨⟨q0, q1, q2⟩, -⟩ := HZ.out w9 S.out.2; clear b9) | (at_builtin; refine app_str rfl _ _ rfl B _ _ rfl S.out.1 _ rfl (by have z := HLim.out; simp only [List.length_append, List.length_cons, List.length_nil] at z ⊢; omega) (HZ.out _ S.out.2).2 ?_; intro v9 w9 b9 f9; have S := hid (And.intro b9 (S.out.2.trans f9)); obtain ⟨⟨q0, q1, q2⟩, -⟩ := HZ.out w9 S.out.2; clear b9 f9) | (at_builtin; refine app_one rfl _ _ rfl B _ _ rfl S.out.1 32 32 rfl rfl (by have z := HLim.out; simp only [List.length_append, List.length_cons, List.length_nil] at z ⊢; omega) (HZ.out _ S.out.2).2 ?_; intro v9 w9 b9 f9; have S := hid (And.intro b9 (S.out.2.trans f9)); obtain ⟨⟨q0, q1, q2⟩, -⟩ := HZ.out w9 S.out.2; clear b9 f9) | (at_builtin; refine app_one rfl _ _ rfl B _ _ rfl S.out.1 10 10 rfl rfl (by have z := HLim.out; simp only [List.length_append, List.length_cons, List.length_nil] at z ⊢; omega) (HZ.out _ S.out.2).2 ?_; intro v9 w9 b9 f9; have S := hid (And.intro b9 (S.out.2.trans f9)); obtain ⟨⟨q0, q1, q2⟩, -⟩ := HZ.out w9 S.out.2; clear b9 f9))
          exact ⟨⟨j + 1, rfl, HLT.out, by rw [HCO.out, lnB_2 htl]; simpa using S.out.1, HB8.out.trans S.out.2⟩, hme⟩
      · have ea1 : (aj != 0) = true := by simpa using ha
        have ea2 : (aj == 0) = false := by simpa using ha
        rcases (by omega : r = 0 ∨ r = 1 ∨ r = 2) with rfl | rfl | rfl
        · skip
          have htl : tlN ok aj bj = 2 := by rw [HTL.out]; rw [if_pos hb]
          clear hwl ha hb
          go_wp2_with (first | (go_at_call 16; (with_reducible refine (HWN _).mono ?_); rintro e9 w9 ⟨rfl, rfl⟩) | (go_at_call 14; (with_reducible refine (HSA _).mono ?_); rintro e9 w9 ⟨rfl, b9⟩; have S := hid (And.intro (S.out.1.below b9) (S.out.2.trans (Fr.below (HZ.out _ S.out.2).2 b9))); obtain ⟨⟨q0, q1, q2⟩, -⟩ := HZ.out w9 S.out.2; clear b9) | (go_at_call 14; (with_reducible refine (HSB _).mono ?_); rintro e9 w9 ⟨rfl, b9⟩; have S := hid (And.intro (S.out.1.below b9) (S.out.2.trans (Fr.below (HZ.out _ S.out.2).2 b9))); obtain ⟨⟨q0, q1, q2⟩, -⟩ := HZ.out w9 S.out.2; clear b9) | (at_builtin; refine app_str rfl _ _ rfl B _ _ rfl S.out.1 _ rfl (by have z := HLim.out; simp only [List.length_append, List.length_cons, List.length_nil] at z ⊢; omega) (HZ.out _ S.out.2).2 ?_; intro v9 w9 b9 f9; have S := hid (And.intro b9 (S.out.2.trans f9)); obtain ⟨⟨q0, q1, q2⟩, -⟩ := HZ.out w9 S.out.2; clear b9 f9) | (at_builtin; refine app_one rfl _ _ rfl B _ _ rfl S.out.1 32 32 rfl rfl (by have z := HLim.out; simp only [List.length_append, List.length_cons, List.length_nil] at z ⊢; omega) (HZ.out _ S.out.2).2 ?_; intro v9 w9 b9 f9; have S := hid (And.intro b9 (S.out.2.trans f9)); obtain ⟨⟨q0, q1, q2⟩, -⟩ := HZ.out w9 S.out.2; clear b9 f9) | (at_builtin; refine app_one rfl _ _ rfl B _ _ rfl S.out.1 10 10 rfl rfl (by have z := HLim.out; simp only [List.length_append, List.length_cons, List.length_nil] at z ⊢; omega) (HZ.out _ S.out.2).2 ?_; intro v9 w9 b9 f9; have S := hid (And.intro b9 (S.out.2.trans f9)); obtain ⟨⟨q0, q1, q2⟩, -⟩ := HZ.out w9 S.out.2; clear b9 f9))
          exact ⟨⟨j + 1, rfl, HLT.out, by rw [HCO.out, lnB_2 htl]; simpa using S.out.1, HB8.out.trans S.out.2⟩, hme⟩
        · skip
          have htl : tlN ok aj bj = 2 := by rw [HTL.out]; rw [if_pos hb]
          clear hwl ha hb
          go_wp2_with (first | (go_at_call 16; (with_reducible refine (HWN _).mono ?_); rintro e9 w9 ⟨rfl, rfl⟩) | (go_at_call 14; (with_reducible refine (HSA _).mono ?_); rintro e9 w9 ⟨rfl, b9⟩; have S := hid (And.intro (S.out.1.below b9) (S.out.2.trans (Fr.below (HZ.out _ S.out.2).2 b9))); obtain ⟨⟨q0, q1, q2⟩, -⟩ := HZ.out w9 S.out.2; clear b9) | (go_at_call 14; (with_reducible refine (HSB _).mono ?_); rintro e9 w9 ⟨rfl, b9⟩; have S := hid (And.intro (S.out.1.below b9) (S.out.2.trans (Fr.below (HZ.out _ S.out.2).2 b9))); obtain ⟨⟨q0, q1, q2⟩, -⟩ := HZ.out w9 S.out.2; clear b9) | (at_builtin; refine app_str rfl _ _ rfl B _ _ rfl S.out.1 _ rfl (by have z := HLim.out; simp only [List.length_append, List.length_cons, List.length_nil] at z ⊢; omega) (HZ.out _ S.out.2).2 ?_; intro v9 w9 b9 f9; have S := hid (And.intro b9 (S.out.2.trans f9)); obtain ⟨⟨q0, q1, q2⟩, -⟩ := HZ.out w9 S.out.2; clear b9 f9) | (at_builtin; refine app_one rfl _ _ rfl B _ _ rfl S.out.1 32 32 rfl rfl (by have z := HLim.out; simp only [List.length_append, List.length_cons, List.length_nil] at z ⊢; omega) (HZ.out _ S.out.2).2 ?_; intro v9 w9 b9 f9; have S := hid (And.intro b9 (S.out.2.trans f9)); obtain ⟨⟨q0, q1, q2⟩, -⟩ := HZ.out w9 S.out.2; clear b9 f9) | (at_builtin; refine app_one rfl _ _ rfl B _ _ rfl S.out.1 10 10 rfl rfl (by have z := HLim.out; simp only [List.length_append, List.length_cons, List.length_nil] at z ⊢; omega) (HZ.out _ S.out.2).2 ?_; intro v9 w9 b9 f9; have S := hid (And.intro b9 (S.out.2.trans f9)); obtain ⟨⟨q0, q1, q2⟩, -⟩ := HZ.out w9 S.out.2; clear b9 f9))
          exact ⟨⟨j + 1, rfl, HLT.out, by rw [HCO.out, lnB_2 htl]; simpa using S.out.1, HB8.out.trans S.out.2⟩, hme⟩
        · skip
          have htl : tlN ok aj bj = 2 := by rw [HTL.out]; rw [if_pos hb]
          clear hwl ha hb
          go_wp2_with (first | (go_at_call 16; (with_reducible refine (HWN _).mono ?_); rintro e9 w9 ⟨rfl, rfl⟩) | (go_at_call 14; (with_reducible refine (HSA _).mono ?_); rintro e9 w9 ⟨rfl, b9⟩; have S := hid (And.intro (S.out.1.below b9) (S.out.2.trans (Fr.below (HZ.out _ S.out.2).2 b9))); obtain ⟨⟨q0, q1, q2⟩, -⟩ := HZ.out w9 S.out.2; clear b9) | (go_at_call 14; (with_reducible refine (HSB _).mono ?_); rintro e9 w9 ⟨rfl, b9⟩; have S := hid (And.intro (S.out.1.below b9) (S.out.2.trans (Fr.below (HZ.out _ S.out.2).2 b9))); obtain ⟨⟨q0, q1, q2⟩, -⟩ := HZ.out w9 S.out.2; clear b9) | (at_builtin; refine app_str rfl _ _ rfl B _ _ rfl S.out.1 _ rfl (by have z := HLim.out; simp only [List.length_append, List.length_cons, List.length_nil] at z ⊢; omega) (HZ.out _ S.out.2).2 ?_; intro v9 w9 b9 f9; have S := hid (And.intro b9 (S.out.2.trans f9)); obtain ⟨⟨q0, q1, q2⟩, -⟩ := HZ.out w9 S.out.2; clear b9 f9) | (at_builtin; refine app_one rfl _ _ rfl B _ _ rfl S.out.1 32 32 rfl rfl (by have z := HLim.out; simp only [List.length_append, List.length_cons, List.length_nil] at z ⊢; omega) (HZ.out _ S.out.2).2 ?_; intro v9 w9 b9 f9; have S := hid (And.intro b9 (S.out.2.trans f9)); obtain ⟨⟨q0, q1, q2⟩, -⟩ := HZ.out w9 S.out.2; clear b9 f9) | (at_builtin; refine app_one rfl _ _ rfl B _ _ rfl S.out.1 10 10 rfl rfl (by have z := HLim.out; simp only [List.length_append, List.length_cons, List.length_nil] at z ⊢; omega) (HZ.out _ S.out.2).2 ?_; intro v9 w9 b9 f9; have S := hid (And.intro b9 (S.out.2.trans f9)); obtain ⟨⟨q0, q1, q2⟩, -⟩ := HZ.out w9 S.out.2; clear b9 f9))
          exact ⟨⟨j + 1, rfl, HLT.out, by rw [HCO.out, lnB_2 htl]; simpa using S.out.1, HB8.out.trans S.out.2⟩, hme⟩
  case neg =>
    have dlt : decide ((j : Int) < (P.n : Int)) = false := by simp; omega
    obtain rfl : j = P.n := by omega
    have hpos : 0 < (lsB P).length := by simp [lsB, hdB]
    rw [← HL.out] at hb
    obtain ⟨M, hM⟩ : ∃ M, lsB P = M := ⟨_, rfl⟩
    rw [hM] at hb hpos
    obtain ⟨g, cap, rfl, hcv⟩ := br_conv hb hpos
    have HF := hid hfr
    have HM := hid hM
    clear hb hfr hsz hM c0 c1 c3
    go_wp2_with fail
    go_ret
    exact ⟨fun _ => by rw [HM.out]; rfl, fun h9 => absurd HS.out h9, H0.out.1.trans HF.out⟩
end Go.Proofs.YthbngffonbhakaaDoor
