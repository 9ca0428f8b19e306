import Derived.Test.YtmekcccmnkgodaaGreatDoorFLRange
import Derived.Shelf.Abstract
import Derived.Shelf.RegionOpen
import Derived.WalkKit
import Derived.OwnWalkIn
import Derived.TacticsInMore
import Derived.LoopNIn
import Derived.LoopIn
namespace Go.Proofs.YtmekcccmnkgodaaGreatDoor
open Go.ChangeShapes Go.WideShapes Go.ChangeAt Go.RowKit Go.Shelf
set_option linter.unusedVariables false
attribute [local go_sem] Oper.semAt_some

/-- the block of a *api.PosError -/
def posObj (c ln cl : Int) : Obj := .cells #[.int .i64 ln, .int .i64 cl, .iface 51 (.int .i64 c)] 59
theorem fault_any (c ln cl : Int) (w : World) :
    Calls Tryz.prog 32 #[.int .i64 c, .int .i64 ln, .int .i64 cl] w fun e w' => e = .returned (.iface 56 (.pointer (some ⟨w.heap.size, 0, none⟩))) ∧ w' = w.alloc (posObj c ln cl) := by
  go_enter Tryz.func32, Tryz.ntmps32
  go_wp2
  go_ret
  exact ⟨rfl, rfl⟩

theorem var_lt {w : World} {n : String} {g : Nat} {cs : Array Value} (hg : Tryz.prog.globalNamed n = some g) (h : w.var? Tryz.prog n = some cs) : g < w.heap.size := by
  unfold World.var? at h
  simp only [hg, Option.bind_some] at h
  cases hh : w.heap[g]? with
  | none => simp [hh] at h
  | some o => exact (Array.getElem?_eq_some_iff.1 hh).1
theorem Gr.low {w : World} (h : Gr w) : 6 ≤ w.heap.size := by
  obtain ⟨h0, ⟨t1, p1, h1⟩, ⟨t2, p2, h2⟩⟩ := h
  have e1 : Tryz.prog.globalNamed "strconv.ErrSyntax" = some 4 := by kernel_rfl
  have e2 : Tryz.prog.globalNamed "strconv.ErrRange" = some 5 := by kernel_rfl
  have l1 := var_lt e1 h1
  have l2 := var_lt e2 h2
  have l0 : 1 < w.heap.size := by
    have hc := h0 0 (by decide)
    unfold World.cell? at hc
    cases hh : w.heap[1]? with
    | none => simp [hh] at hc
    | some o => exact (Array.getElem?_eq_some_iff.1 hh).1
  omega

theorem cell_of_heap {w w' : World} {g i : Nat} (h : w'.heap[g]? = w.heap[g]?) : w'.cell? ⟨g, i, none⟩ = w.cell? ⟨g, i, none⟩ := by
  unfold World.cell?
  rw [show (⟨g, i, none⟩ : Addr).block = g from rfl, h]

def tkV (t : Tk) : Value := tokV t.kind t.text t.num t.line t.col
/-- what Each hands over at its i-th call of yield -/
def It (R : List Tk × Option Er) (i : Nat) (vs : Array Value) (W : World) : Prop :=
  (∃ t, R.1[i]? = some t ∧ vs = #[tkV t, .nilIface]) ∨
  (i = R.1.length ∧ ∃ e b, R.2 = some e ∧ vs = #[tokV 0 [] 0 0 0, .iface 56 (.pointer (some ⟨b, 0, none⟩))] ∧ W.heap[b]? = some (posObj e.code e.line e.col))
def tot (R : List Tk × Option Er) : Nat := R.1.length + (if R.2.isSome then 1 else 0)

theorem Gr.keepN {w w' : World} (h : Gr w) (hk : ∀ k, k < 6 → w'.heap[k]? = w.heap[k]?) : Gr w' := by
  obtain ⟨h0, ⟨t1, p1, h1⟩, ⟨t2, p2, h2⟩⟩ := h
  have e1 : Tryz.prog.globalNamed "strconv.ErrSyntax" = some 4 := by kernel_rfl
  have e2 : Tryz.prog.globalNamed "strconv.ErrRange" = some 5 := by kernel_rfl
  refine ⟨fun k hk2 => ?_, ⟨t1, p1, ?_⟩, ⟨t2, p2, ?_⟩⟩
  · have := h0 k hk2
    unfold World.cell? at this ⊢
    rw [show (⟨1, k, none⟩ : Addr).block = 1 from rfl] at this ⊢
    rw [hk _ (by decide)]
    exact this
  · unfold World.var? at h1 ⊢
    simp only [e1, Option.bind_some] at h1 ⊢
    rw [hk _ (by decide)]
    exact h1
  · unfold World.var? at h2 ⊢
    simp only [e2, Option.bind_some] at h2 ⊢
    rw [hk _ (by decide)]
    exact h2

theorem ext_drop (s : Bs) (n : Nat) : (⟨s.toArray⟩ : ByteArray).extract n s.length = ⟨(s.drop n).toArray⟩ := by
  apply ByteArray.ext
  simp only [ByteArray.data_extract]
  simp
  exact List.take_of_length_le (by simp)

/-- what a call of yield comes to -/
def Rounds (l n0 : Nat) (It : Nat → Array Value → World → Prop) (J Jx : Nat → World → Prop) : Prop :=
  ∀ m i vs W0 W1, J i W0 → Below W0.heap.size W0 W1 → It i vs W1 → YieldAt Fence.wide m Tryz.prog l vs W1 fun e W' =>
      (e = .returned (.bool true) ∧ J (i + 1) W' ∧ Kept n0 W0.heap.size W1 W') ∨ (e = .returned (.bool false) ∧ Jx (i + 1) W')

/-- one step of a range over what is left of a text -/
theorem next_ascii (src : Bs) (p q : Nat) (h : p + q < src.length) (ha : (src[p + q]).toNat < 128) : (Utf8.decode ⟨(src.drop p).toArray⟩ q) = ((src[p + q]).toNat, 1) := by
  have hq : q < (src.drop p).length := by simp; omega
  have hq' : q < (⟨(src.drop p).toArray⟩ : ByteArray).size := by simpa [ByteArray.size] using hq
  have he : (⟨(src.drop p).toArray⟩ : ByteArray)[q]'hq' = src[p + q] := by
    show (src.drop p)[q]'hq = _
    simp
  rw [decode_ascii _ q hq' (by rw [he]; exact ha), he]
theorem next_high (src : Bs) (p q : Nat) (h : p + q < src.length) (ha : 128 ≤ (src[p + q]).toNat) : 128 ≤ (Utf8.decode ⟨(src.drop p).toArray⟩ q).1 := by
  have hq : q < (src.drop p).length := by simp; omega
  have hq' : q < (⟨(src.drop p).toArray⟩ : ByteArray).size := by simpa [ByteArray.size] using hq
  have he : (⟨(src.drop p).toArray⟩ : ByteArray)[q]'hq' = src[p + q] := by
    show (src.drop p)[q]'hq = _
    simp
  exact (decode_high _ q hq' (by rw [he]; exact ha)).1
theorem drop_cons (src : Bs) (h : Nat) (hh : h < src.length) : src.drop h = src[h] :: src.drop (h + 1) := List.drop_eq_getElem_cons hh

theorem ng_ret {P : Program} {fn : Func} {R : Ending → World → Prop} {a : Act} {w : World} {v : Value} (hr : (results fn a.tmps).run P w = .ok v w) (hd : a.defers = []) (hR : R (.returned v) w) : Exit.noGoto (bodyPost P fn R) .ret a w := bodyPost_ret hr hd hR
theorem ng_end {P : Program} {fn : Func} {R : Ending → World → Prop} {a : Act} {w : World} {v : Value} (hr : (results fn a.tmps).run P w = .ok v w) (hd : a.defers = []) (hR : R (.returned v) w) : Exit.noGoto (bodyPost P fn R) .normal a w := bodyPost_end hr hd hR
theorem tot_err {R : List Tk × Option Er} {ct : Nat} {e : Er} (h : (R.1.drop ct, R.2) = (([] : List Tk), some e)) (hct : ct ≤ R.1.length) : tot R = ct + 1 ∧ ct = R.1.length ∧ R.2 = some e := by
  have h1 := congrArg Prod.fst h
  have h2 := congrArg Prod.snd h
  have h3 := List.drop_eq_nil_iff.1 h1
  simp only at h2
  refine ⟨?_, by omega, h2⟩
  unfold tot
  rw [h2]
  simp
  omega
theorem tot_tok {R : List Tk × Option Er} {ct : Nat} {t : Tk} {ts : List Tk} {o : Option Er} (h : (R.1.drop ct, R.2) = (t :: ts, o)) : R.1[ct]? = some t ∧ (ts, o) = (R.1.drop (ct + 1), R.2) ∧ ct + 1 ≤ R.1.length ∧ ct < tot R := by
  have h1 := congrArg Prod.fst h
  have h2 := congrArg Prod.snd h
  simp only at h1 h2
  have hlt : ct < R.1.length := by
    by_cases hh : ct < R.1.length
    · exact hh
    · rw [List.drop_eq_nil_of_le (by omega)] at h1; cases h1
  have h3 := List.drop_eq_getElem_cons hlt
  rw [h1] at h3
  injection h3 with h4 h5
  refine ⟨by rw [List.getElem?_eq_getElem hlt, ← h4], by rw [h5, h2], hlt, ?_⟩
  unfold tot
  omega
theorem tot_end {R : List Tk × Option Er} {ct : Nat} (h : (R.1.drop ct, R.2) = (([] : List Tk), (none : Option Er))) (hct : ct ≤ R.1.length) : tot R = ct := by
  have h1 := congrArg Prod.fst h
  have h2 := congrArg Prod.snd h
  have h3 := List.drop_eq_nil_iff.1 h1
  unfold tot
  simp only at h2
  rw [h2]
  simp
  omega

set_option maxRecDepth 100000 in
set_option maxHeartbeats 8000000 in
theorem walk_in (src : Bs) (hl : src.length ≤ 65536) (n0 : Nat) (hn0 : 6 ≤ n0) (l : Nat) (J Jx : Nat → World → Prop) (n : Nat) (hY : Rounds l n0 (It (scan src 1 1 0)) J Jx) (W : World) (g : Gr W) (h0 : J 0 W) :
    CallsIn Fence.wide n Tryz.prog 33 #[.string ⟨src.toArray⟩, .func (.yield l) #[] #[]] W fun e W' => (∃ v, e = .returned v) ∧
      ((∃ W0, J (tot (scan src 1 1 0)) W0 ∧ Below W0.heap.size W0 W') ∨ ∃ i W0, i < tot (scan src 1 1 0) ∧ Jx (i + 1) W0 ∧ Below W0.heap.size W0 W') := by
  obtain ⟨R, hR⟩ : ∃ R, scan src 1 1 0 = R := ⟨_, rfl⟩
  have HR : Hid (scan src 1 1 0 = R) := hR
  rw [hR] at hY ⊢
  clear hR
  have hsz : (⟨src.toArray⟩ : ByteArray).size = src.length := by simp [ByteArray.size]
  have hext := ext_drop src
  obtain ⟨b, hb⟩ : ∃ b : ByteArray, ⟨src.toArray⟩ = b := ⟨_, rfl⟩
  rw [hb] at hsz hext ⊢
  refine callsIn_of_wp Tryz.func33 rfl trivial ?_ rfl
  simp only [Tryz.ntmps33, List.size_toArray, List.length_cons, List.length_nil, Nat.reduceAdd, Nat.reduceSub, Array.replicate_succ, Array.replicate_zero, List.push_toArray, List.append_toArray, List.nil_append, List.cons_append]
  refine wpIn_scope ?_
  gi_wp2
  refine wpIn_label ?_
  gi_wp2
  gi_loopw [4, 5, 6, 7] (fun v4 v5 v6 v7 wr => ∃ (p ln hd ct : Nat) (W0 : World), v4 = .int .i64 p ∧ v5 = .int .i64 ln ∧ v6 = .int .i64 hd ∧ v7 = .int .i64 ct ∧ p ≤ src.length ∧ ct ≤ p ∧ hd ≤ p ∧ ln ≤ p + 1 ∧ ct ≤ R.1.length ∧ J ct W0 ∧ Below W0.heap.size W0 wr ∧ Gr wr ∧ Hid (scan (src.drop p) ln (p - hd + 1) ct = (R.1.drop ct, R.2))) (fun v4 _ _ _ _ => src.length - (intOf v4).toNat)
  case atStart => exact ⟨0, 1, 0, 0, W, rfl, rfl, rfl, rfl, by omega, by omega, by omega, by omega, by omega, h0, Below.refl _ _, g, by show _ = _; simpa using HR.out⟩
  case round =>
    obtain ⟨p, ln, hd, ct, W0, rfl, rfl, rfl, rfl, hp, hcp, hhd, hln, hct, hJ, hbel, gr, hinv⟩ := hrel
    by_cases hlt : p < src.length
    · have d0 : decide ((p : Int) < src.length) = true := decide_eq_true (by omega)
      have hxp := hext p
      gi_wp2
      obtain ⟨sb, hsb⟩ : ∃ sb : ByteArray, ⟨(src.drop p).toArray⟩ = sb := ⟨_, rfl⟩
      have hsbz : sb.size = src.length - p := by rw [← hsb]; simp [ByteArray.size]
      have hasc := next_ascii src p
      have hhig := next_high src p
      rw [hsb] at hasc hhig
      simp only [hsb]
      clear hxp d0
      gi_loopw [4, 5, 6, 7] (fun v4 v5 v6 v7 w2 => ∃ (q ln2 hd2 : Nat), v4 = .int .i64 p ∧ v7 = .int .i64 ct ∧ v5 = .int .i64 ln2 ∧ v6 = .int .i64 hd2 ∧ w2 = wr.iter sb q ∧ p + q ≤ src.length ∧ hd2 ≤ p + q ∧ ln2 ≤ p + q + 1 ∧ Hid (scan (src.drop (p + q)) ln2 (p + q - hd2 + 1) ct = (R.1.drop ct, R.2))) (fun _ _ _ _ w2 => src.length - (p + w2.iterPos wr.heap.size))
      case atStart => exact ⟨0, ln, hd, rfl, rfl, rfl, rfl, rfl, by omega, by omega, by omega, by simpa using hinv⟩
      case round =>
        obtain ⟨q, ln2, hd2, rfl, rfl, rfl, rfl, rfl, hpq, hhd2, hln2, hinv2⟩ := hrel
        by_cases hq : p + q < src.length
        · obtain ⟨h, hh⟩ : ∃ h, p + q = h := ⟨_, rfl⟩
          have hasc1 := hasc q
          have hhig1 := hhig q
          rw [hh] at hq hpq hhd2 hln2 hinv2 hasc1 hhig1
          have hdc := drop_cons src h hq
          obtain ⟨c, hc⟩ : ∃ c, src[h] = c := ⟨_, rfl⟩
          rw [hc] at hdc
          have hasc2 : c.toNat < 128 → Utf8.decode sb q = (c.toNat, 1) := by rw [← hc]; exact hasc1 hq
          have hhig2 : 128 ≤ c.toNat → 128 ≤ (Utf8.decode sb q).1 := by rw [← hc]; exact hhig1 hq
          have hnx : ∀ ty, (Instr.next (.pointer (some ⟨wr.heap.size, 0, none⟩)) true ty).run Tryz.prog (wr.iter sb q) = _ := fun ty => run_next_any wr sb q ty (by omega)
          clear hasc hhig hasc1 hhig1
          by_cases hcc : c.toNat = 10
          · have hdec := hasc2 (by omega)
            rw [hcc] at hdec
            rw [hdec] at hnx
            have hw3 : (p : Int) + q + 1 = ((h + 1 : Nat) : Int) := by omega
            have HW3 : Hid ((p : Int) + q + 1 = ((h + 1 : Nat) : Int)) := hw3
            clear hw3
            have r1 : p + (q + 1) ≤ src.length := by omega
            have r2 : h + 1 ≤ p + (q + 1) := by omega
            have r3 : ln2 + 1 ≤ p + (q + 1) + 1 := by omega
            have r4 : src.length - (p + (q + 1)) < src.length - (p + q) := by omega
            have hsc : scan (src.drop h) ln2 (h - hd2 + 1) ct = scan (src.drop (h + 1)) (ln2 + 1) 1 ct := by rw [hdc, scan_nl _ _ _ _ _ hcc]
            rw [hinv2.out] at hsc
            have HS : Hid (scan (src.drop (p + (q + 1))) (ln2 + 1) (p + (q + 1) - (h + 1) + 1) ct = (R.1.drop ct, R.2)) := by show _ = _; rw [show p + (q + 1) = h + 1 by omega, Nat.sub_self]; exact hsc.symm
            clear hasc2 hhig2 hdec hsc hinv2 hdc hc
            gi_wp2
            go_roundw
            case rel => exact ⟨q + 1, ln2 + 1, h + 1, rfl, rfl, rfl, congrArg (Value.int .i64) HW3.out, rfl, r1, r2, r3, HS⟩
            case measure => rw [World.iterPos_iter, World.iterPos_iter]; exact r4
          rcases (by omega : c.toNat = 32 ∨ c.toNat = 9 ∨ c.toNat = 13 ∨ c.toNat = 35 ∨ (c.toNat ≠ 32 ∧ c.toNat ≠ 9 ∧ c.toNat ≠ 13 ∧ c.toNat ≠ 35)) with hcc | hcc | hcc | hcc | hcc
          · rename_i hnl
            have hdec := hasc2 (by omega)
            rw [hcc] at hdec
            rw [hdec] at hnx
            have hsc : scan (src.drop h) ln2 (h - hd2 + 1) ct = scan (src.drop (h + 1)) ln2 (h + 1 - hd2 + 1) ct := by rw [hdc, scan_bl _ _ _ _ _ (by omega)]; congr 1; omega
            rw [hinv2.out] at hsc
            have r1 : p + (q + 1) ≤ src.length := by omega
            have r2 : hd2 ≤ p + (q + 1) := by omega
            have r3 : ln2 ≤ p + (q + 1) + 1 := by omega
            have r4 : src.length - (p + (q + 1)) < src.length - (p + q) := by omega
            have HS : Hid (scan (src.drop (p + (q + 1))) ln2 (p + (q + 1) - hd2 + 1) ct = (R.1.drop ct, R.2)) := by show _ = _; rw [show p + (q + 1) = h + 1 by omega]; exact hsc.symm
            clear hasc2 hhig2 hdec hsc hinv2 hdc hc
            gi_wp2
            go_roundw
            case rel => exact ⟨q + 1, ln2, hd2, rfl, rfl, rfl, rfl, rfl, r1, r2, r3, HS⟩
            case measure => rw [World.iterPos_iter, World.iterPos_iter]; exact r4
          · rename_i hnl
            have hdec := hasc2 (by omega)
            rw [hcc] at hdec
            rw [hdec] at hnx
            have hsc : scan (src.drop h) ln2 (h - hd2 + 1) ct = scan (src.drop (h + 1)) ln2 (h + 1 - hd2 + 1) ct := by rw [hdc, scan_bl _ _ _ _ _ (by omega)]; congr 1; omega
            rw [hinv2.out] at hsc
            have r1 : p + (q + 1) ≤ src.length := by omega
            have r2 : hd2 ≤ p + (q + 1) := by omega
            have r3 : ln2 ≤ p + (q + 1) + 1 := by omega
            have r4 : src.length - (p + (q + 1)) < src.length - (p + q) := by omega
            have HS : Hid (scan (src.drop (p + (q + 1))) ln2 (p + (q + 1) - hd2 + 1) ct = (R.1.drop ct, R.2)) := by show _ = _; rw [show p + (q + 1) = h + 1 by omega]; exact hsc.symm
            clear hasc2 hhig2 hdec hsc hinv2 hdc hc
            gi_wp2
            go_roundw
            case rel => exact ⟨q + 1, ln2, hd2, rfl, rfl, rfl, rfl, rfl, r1, r2, r3, HS⟩
            case measure => rw [World.iterPos_iter, World.iterPos_iter]; exact r4
          · rename_i hnl
            have hdec := hasc2 (by omega)
            rw [hcc] at hdec
            rw [hdec] at hnx
            have hsc : scan (src.drop h) ln2 (h - hd2 + 1) ct = scan (src.drop (h + 1)) ln2 (h + 1 - hd2 + 1) ct := by rw [hdc, scan_bl _ _ _ _ _ (by omega)]; congr 1; omega
            rw [hinv2.out] at hsc
            have r1 : p + (q + 1) ≤ src.length := by omega
            have r2 : hd2 ≤ p + (q + 1) := by omega
            have r3 : ln2 ≤ p + (q + 1) + 1 := by omega
            have r4 : src.length - (p + (q + 1)) < src.length - (p + q) := by omega
            have HS : Hid (scan (src.drop (p + (q + 1))) ln2 (p + (q + 1) - hd2 + 1) ct = (R.1.drop ct, R.2)) := by show _ = _; rw [show p + (q + 1) = h + 1 by omega]; exact hsc.symm
            clear hasc2 hhig2 hdec hsc hinv2 hdc hc
            gi_wp2
            go_roundw
            case rel => exact ⟨q + 1, ln2, hd2, rfl, rfl, rfl, rfl, rfl, r1, r2, r3, HS⟩
            case measure => rw [World.iterPos_iter, World.iterPos_iter]; exact r4
          · rename_i hnl
            have hdec := hasc2 (by omega)
            rw [hcc] at hdec
            rw [hdec] at hnx
            have hrl : (src.drop h).length ≤ maxLen := by rw [List.length_drop]; exact Nat.le_trans (Nat.sub_le _ _) (Nat.le_trans hl (by decide))
            have HC : ∀ w', Hid (Calls Tryz.prog 44 #[.string ⟨(src.drop h).toArray⟩, .func (.func 45) #[] #[]] w' fun e w'' => e = .returned (.int .i64 ((src.drop h).takeWhile fun c => inC c.toNat).length) ∧ Below w'.heap.size w' w'') := fun w' => span_inComment _ hrl w'
            have htl : ((src.drop h).takeWhile fun c => inC c.toNat).length = 1 + ((src.drop (h + 1)).takeWhile pC).length := by
              rw [hdc, List.takeWhile_cons, if_pos (by simp [inC]; omega)]
              simp only [List.length_cons]
              exact Nat.add_comm _ _
            have hsc : scan (src.drop h) ln2 (h - hd2 + 1) ct = scan (src.drop (h + (1 + ((src.drop (h + 1)).takeWhile pC).length))) ln2 (h + (1 + ((src.drop (h + 1)).takeWhile pC).length) - hd2 + 1) ct := by
              rw [hdc, scan_cm _ _ _ _ _ hcc, List.drop_drop]
              congr 1
              · congr 1; omega
              · omega
            have hle : ((src.drop (h + 1)).takeWhile pC).length ≤ src.length - (h + 1) := by
              have := (List.takeWhile_sublist (l := src.drop (h + 1)) pC).length_le
              simpa using this
            rw [hinv2.out] at hsc
            rw [htl] at HC
            generalize ((src.drop (h + 1)).takeWhile pC).length = m at *
            have HW3 : Hid ((p : Int) + q + (1 + m) = ((h + (1 + m) : Nat) : Int)) := by show _ = _; omega
            have r1 : h + (1 + m) ≤ src.length := by omega
            have r5 : ct ≤ h + (1 + m) := by omega
            have r2 : hd2 ≤ h + (1 + m) := by omega
            have r3 : ln2 ≤ h + (1 + m) + 1 := by omega
            have r4 : src.length - (h + (1 + m)) < src.length - p := by omega
            have HW4 : Hid (((p : Int) + q + (1 + m)).toNat = h + (1 + m)) := by show _ = _; omega
            have HS : Hid (scan (src.drop (h + (1 + m))) ln2 (h + (1 + m) - hd2 + 1) ct = (R.1.drop ct, R.2)) := hsc.symm
            have hxh := hext h
            clear hasc2 hhig2 hdec hsc hinv2 hdc hc htl hext
            gi_wp2_with (refine ⟨trivial, (fun h => by cases h), ?_⟩; gi_at_call 44; refine (callsIn_wide.2 (HC _).out).mono ?_; rintro e w' ⟨rfl, hb1⟩)
            refine ⟨⟨h + (1 + m), ln2, hd2, ct, W0, congrArg (Value.int .i64) HW3.out, rfl, rfl, rfl, r1, r5, r2, r3, hct, hJ, ?_, ?_, HS⟩, ?_⟩
            · exact hbel.trans (((Below.refl _ wr).alloc (Nat.le_refl _) _).trans (hb1.mono (by simp [World.iter])) |>.mono hbel.size)
            · exact gr.keep (((Below.refl _ wr).alloc (Nat.le_refl _) _).trans (hb1.mono (by simp [World.iter])))
            · show src.length - ((p : Int) + q + (1 + m)).toNat < src.length - ((p : Int)).toNat
              rw [HW4.out]
              exact r4
          · rename_i hnl
            obtain ⟨rn, hrn⟩ : ∃ rn, (Utf8.decode sb q).1 = rn := ⟨_, rfl⟩
            obtain ⟨wd, hwd⟩ : ∃ wd, (Utf8.decode sb q).2 = wd := ⟨_, rfl⟩
            have hne : rn ≠ 10 ∧ rn ≠ 32 ∧ rn ≠ 9 ∧ rn ≠ 13 ∧ rn ≠ 35 := by
              by_cases ha : c.toNat < 128
              · have := hasc2 ha
                rw [this] at hrn
                simp only at hrn
                omega
              · have := hhig2 (by omega)
                omega
            rw [hrn, hwd] at hnx
            have hst : startT c := ⟨hnl, hcc.1, hcc.2.1, hcc.2.2.1, hcc.2.2.2⟩
            have e1 : ((rn : Int) == 10) = false := by simp; omega
            have e2 : ((rn : Int) == 32) = false := by simp; omega
            have e3 : ((rn : Int) == 9) = false := by simp; omega
            have e4 : ((rn : Int) == 13) = false := by simp; omega
            have e5 : ((rn : Int) == 35) = false := by simp; omega
            have hrlen : (c :: src.drop (h + 1)).length ≤ 281474976710656 := by rw [← hdc, List.length_drop]; omega
            have HRD : ∀ w', Below wr.heap.size wr w' → Hid (Calls Tryz.prog 46 #[.string ⟨(src.drop h).toArray⟩] w' fun e w'' => e = .returned (rdV (rd (c :: src.drop (h + 1)))) ∧ Below w'.heap.size w' w'') := fun w' hb => by
              have := read_any c (src.drop (h + 1)) hrlen w' (gr.keep hb)
              rw [← hdc] at this ⊢
              exact this
            have hit0 : Below wr.heap.size wr (wr.iter sb (q + wd)) := (Below.refl _ wr).alloc (Nat.le_refl _) _
            have HW5 : Hid ((p : Int) + q - hd2 + 1 = ((h - hd2 + 1 : Nat) : Int)) := by show _ = _; omega
            have hxh := hext h
            have hinv3 := hinv2.out
            rw [hdc] at hinv3
            clear hasc2 hhig2 hne hrn hwd hcc hnl hext hrlen hc
            cases hrd : rd (c :: src.drop (h + 1)) with
            | err e =>
              have hcode := rd_code _ _ hrd
              have hsc := (scan_er c (src.drop (h + 1)) ln2 (h - hd2 + 1) ct e hst hrd)
              rw [hinv3] at hsc
              rw [hrd] at HRD
              unfold rdV tokV at HRD
              have d1 : ((e : Int) == 0) = false := by simp; omega
              clear hrd hst hinv3 hcode
              obtain ⟨ht1, ht2, ht3⟩ := tot_err hsc hct
              have yErr : ∀ w2, Below wr.heap.size wr w2 → YieldAt Fence.wide (n - 1) Tryz.prog l #[.agg #[.int .i64 0, .string ⟨#[]⟩, .int .u64 0, .int .i64 0, .int .i64 0], .iface 56 (.pointer (some ⟨w2.heap.size, 0, none⟩))] (w2.alloc (posObj e ln2 ((p : Int) + q - hd2 + 1))) fun e W' => (e = .returned (.bool true) ∨ e = .returned (.bool false)) ∧ ((∃ W0, J (tot R) W0 ∧ Below W0.heap.size W0 W') ∨ ∃ i W0, i < tot R ∧ Jx (i + 1) W0 ∧ Below W0.heap.size W0 W') := by
                intro w2 hb2
                have hb3 : Below W0.heap.size W0 (w2.alloc (posObj e ln2 ((p : Int) + q - hd2 + 1))) := hbel.trans ((hb2.mono hbel.size).trans ((Below.refl _ w2).alloc (Nat.le_trans hbel.size hb2.size) _))
                have hit : It R ct #[.agg #[.int .i64 0, .string ⟨#[]⟩, .int .u64 0, .int .i64 0, .int .i64 0], .iface 56 (.pointer (some ⟨w2.heap.size, 0, none⟩))] (w2.alloc (posObj e ln2 ((p : Int) + q - hd2 + 1))) := by
                  refine .inr ⟨ht2, _, w2.heap.size, ht3, rfl, ?_⟩
                  rw [World.alloc_heap_new, HW5.out]; try rfl
                refine YieldAt.mono (hY (n - 1) ct _ W0 _ hJ hb3 hit) ?_
                rintro e W' (⟨rfl, h1, _⟩ | ⟨rfl, h1⟩)
                · exact ⟨.inl rfl, .inl ⟨W', by rw [ht1]; exact h1, Below.refl _ _⟩⟩
                · exact ⟨.inr rfl, .inr ⟨ct, W', by rw [ht1]; exact Nat.lt_succ_self _, h1, Below.refl _ _⟩⟩
              clear hsc ht1 ht2 ht3 hY hinv2 HW5 hn0 HR hdc
              gi_wp2_with (first | (refine ⟨trivial, (fun h => by cases h), ?_⟩; gi_at_call 46; (with_reducible refine (callsIn_wide.2 (HRD _ hit0).out).mono ?_); rintro e' w1 ⟨rfl, hb0⟩; have hb1 := hit0.trans (hb0.mono hit0.size); clear hb0) | (refine ⟨trivial, (fun h => by cases h), ?_⟩; gi_at_call 32; (with_reducible refine (callsIn_wide.2 (fault_any _ _ _ _)).mono ?_); rintro e' w3 ⟨rfl, rfl⟩) | (refine wpListIn_store_row rfl _ _ _ rfl w1.heap.size #[.int .i64 0, .string ⟨#[]⟩, .int .u64 0, .int .i64 0, .int .i64 0] rfl rfl _ _ (World.alloc_heap_new w1 _) (by kernel_rfl) rfl (by kernel_rfl) ?_; obtain ⟨w2, hw2, hr2, k0, k1, k2, k3, k4, hb2⟩ := row5 (World.alloc_heap_new w1 _) (hb1.trans ((Below.refl _ w1).alloc hb1.size _)) hb1.size (.int .i64 0) (.string ⟨#[]⟩) (.int .u64 0) (.int .i64 0) (.int .i64 0); rw [hw2]; clear hw2; obtain ⟨fn, tm, asg, bd, hy, hRd⟩ := yErr w2 hb2; clear yErr hit0 HRD))
              refine ⟨(fun h => by cases h), ?_⟩
              refine hRd.mono ?_
              rintro e' W3 ⟨(rfl | rfl), hfin⟩
              · gi_wp2
                refine ng_ret (results_none rfl _ _ _) rfl ?_
                exact ⟨⟨_, rfl⟩, hfin⟩
              · gi_wp2
                refine ng_ret (results_none rfl _ _ _) rfl ?_
                exact ⟨⟨_, rfl⟩, hfin⟩
            | ok k t v =>
              rw [hrd] at HRD
              unfold rdV tokV at HRD
              by_cases hfull : ct = 16384
              · have hsc := scan_full c (src.drop (h + 1)) ln2 (h - hd2 + 1) k v t hst hrd
                rw [hfull] at hinv3
                rw [hinv3, ← hfull] at hsc
                have d1 : ((ct : Int) == 16384) = true := by rw [hfull]; rfl
                clear hrd hst hinv3 hfull
                obtain ⟨ht1, ht2, ht3⟩ := tot_err hsc hct
                have yErr : ∀ w2, Below wr.heap.size wr w2 → YieldAt Fence.wide (n - 1) Tryz.prog l #[.agg #[.int .i64 0, .string ⟨#[]⟩, .int .u64 0, .int .i64 0, .int .i64 0], .iface 56 (.pointer (some ⟨w2.heap.size, 0, none⟩))] (w2.alloc (posObj 34 ln2 ((p : Int) + q - hd2 + 1))) fun e W' => (e = .returned (.bool true) ∨ e = .returned (.bool false)) ∧ ((∃ W0, J (tot R) W0 ∧ Below W0.heap.size W0 W') ∨ ∃ i W0, i < tot R ∧ Jx (i + 1) W0 ∧ Below W0.heap.size W0 W') := by
                  intro w2 hb2
                  have hb3 : Below W0.heap.size W0 (w2.alloc (posObj 34 ln2 ((p : Int) + q - hd2 + 1))) := hbel.trans ((hb2.mono hbel.size).trans ((Below.refl _ w2).alloc (Nat.le_trans hbel.size hb2.size) _))
                  have hit : It R ct #[.agg #[.int .i64 0, .string ⟨#[]⟩, .int .u64 0, .int .i64 0, .int .i64 0], .iface 56 (.pointer (some ⟨w2.heap.size, 0, none⟩))] (w2.alloc (posObj 34 ln2 ((p : Int) + q - hd2 + 1))) := by
                    refine .inr ⟨ht2, _, w2.heap.size, ht3, rfl, ?_⟩
                    rw [World.alloc_heap_new, HW5.out]; try rfl
                  refine YieldAt.mono (hY (n - 1) ct _ W0 _ hJ hb3 hit) ?_
                  rintro e W' (⟨rfl, h1, _⟩ | ⟨rfl, h1⟩)
                  · exact ⟨.inl rfl, .inl ⟨W', by rw [ht1]; exact h1, Below.refl _ _⟩⟩
                  · exact ⟨.inr rfl, .inr ⟨ct, W', by rw [ht1]; exact Nat.lt_succ_self _, h1, Below.refl _ _⟩⟩
                clear hsc ht1 ht2 ht3 hY hinv2 HW5 hn0 HR hdc
                gi_wp2_with (first | (refine ⟨trivial, (fun h => by cases h), ?_⟩; gi_at_call 46; (with_reducible refine (callsIn_wide.2 (HRD _ hit0).out).mono ?_); rintro e' w1 ⟨rfl, hb0⟩; have hb1 := hit0.trans (hb0.mono hit0.size); clear hb0) | (refine ⟨trivial, (fun h => by cases h), ?_⟩; gi_at_call 32; (with_reducible refine (callsIn_wide.2 (fault_any _ _ _ _)).mono ?_); rintro e' w3 ⟨rfl, rfl⟩) | (refine wpListIn_store_row rfl _ _ _ rfl w1.heap.size #[.int .i64 k, .string ⟨t.toArray⟩, .int .u64 v, .int .i64 0, .int .i64 0] rfl rfl _ _ (World.alloc_heap_new w1 _) (by kernel_rfl) rfl (by kernel_rfl) ?_; obtain ⟨w2, hw2, hr2, k0, k1, k2, k3, k4, hb2⟩ := row5 (World.alloc_heap_new w1 _) (hb1.trans ((Below.refl _ w1).alloc hb1.size _)) hb1.size (.int .i64 k) (.string ⟨t.toArray⟩) (.int .u64 v) (.int .i64 0) (.int .i64 0); rw [hw2]; clear hw2; obtain ⟨fn, tm, asg, bd, hy, hRd⟩ := yErr w2 hb2; clear yErr hit0 HRD))
                refine ⟨(fun h => by cases h), ?_⟩
                refine hRd.mono ?_
                rintro e' W3 ⟨(rfl | rfl), hfin⟩
                · gi_wp2
                  refine ng_ret (results_none rfl _ _ _) rfl ?_
                  exact ⟨⟨_, rfl⟩, hfin⟩
                · gi_wp2
                  refine ng_ret (results_none rfl _ _ _) rfl ?_
                  exact ⟨⟨_, rfl⟩, hfin⟩
              · have hsc := scan_ok c (src.drop (h + 1)) ln2 (h - hd2 + 1) ct k v t hst hrd hfull
                have hfr := rd_front c (src.drop (h + 1)) k v t hrd
                have hle := rd_len c (src.drop (h + 1)) k v t hrd
                rw [rd_drop c (src.drop (h + 1)) k v t hrd, ← hdc, List.drop_drop] at hsc
                rw [← hdc, List.length_drop] at hle
                rw [hinv2.out] at hsc
                obtain ⟨ht1, ht2, ht3, ht4⟩ := tot_tok hsc
                have hpos := hfr.2
                have d1 : ((ct : Int) == 16384) = false := by simp; omega
                have HW3 : Hid ((p : Int) + q + t.length = ((h + t.length : Nat) : Int)) := by show _ = _; omega
                have HW4 : Hid (((p : Int) + q + t.length).toNat = h + t.length) := by show _ = _; omega
                have r1 : h + t.length ≤ src.length := by omega
                have r5 : ct + 1 ≤ h + t.length := by omega
                have HWc : Hid (wrap64 ((ct : Int) + 1) = ((ct + 1 : Nat) : Int)) := by show _ = _; unfold wrap64; omega
                have r2 : hd2 ≤ h + t.length := by omega
                have r3 : ln2 ≤ h + t.length + 1 := by omega
                have r4 : src.length - (h + t.length) < src.length - p := by omega
                have htz : (⟨t.toArray⟩ : ByteArray).size = t.length := by simp [ByteArray.size]
                have HS : Hid (scan (src.drop (h + t.length)) ln2 (h + t.length - hd2 + 1) (ct + 1) = (R.1.drop (ct + 1), R.2)) := by
                  show _ = _
                  rw [← ht2, show h + t.length - hd2 + 1 = h - hd2 + 1 + t.length by omega]
                have yTok : ∀ w2, Below wr.heap.size wr w2 → YieldAt Fence.wide (n - 1) Tryz.prog l #[.agg #[.int .i64 k, .string ⟨t.toArray⟩, .int .u64 v, .int .i64 ln2, .int .i64 ((p : Int) + q - hd2 + 1)], .nilIface] w2 fun e W' => (e = .returned (.bool true) ∧ J (ct + 1) W' ∧ Gr W' ∧ (∀ j, wr.heap.size ≤ j → j < w2.heap.size → W'.heap[j]? = w2.heap[j]?)) ∨ (e = .returned (.bool false) ∧ Jx (ct + 1) W') := by
                  intro w2 hb2
                  have hb3 : Below W0.heap.size W0 w2 := hbel.trans (hb2.mono hbel.size)
                  have hit : It R ct #[.agg #[.int .i64 k, .string ⟨t.toArray⟩, .int .u64 v, .int .i64 ln2, .int .i64 ((p : Int) + q - hd2 + 1)], .nilIface] w2 := by
                    refine .inl ⟨_, ht1, ?_⟩
                    rw [HW5.out]
                    rfl
                  refine YieldAt.mono (hY (n - 1) ct _ W0 _ hJ hb3 hit) ?_
                  rintro e W' (⟨rfl, h1, h2⟩ | ⟨rfl, h1⟩)
                  · refine .inl ⟨rfl, h1, ?_, fun j hj hj2 => h2.2 j (.inr (Nat.le_trans hbel.size hj)) hj2⟩
                    refine (gr.keep hb2).keepN fun j hj => ?_
                    refine h2.2 j (.inl (Nat.lt_of_lt_of_le hj hn0)) ?_
                    have hg2 := (gr.keep hb2).low
                    exact Nat.lt_of_lt_of_le hj hg2
                  · exact .inr ⟨rfl, h1⟩
                clear hsc ht1 ht2 hY hinv2 hinv3 HW5 hn0 HR hdc hfr hle hfull hrd hst
                gi_wp2_with (refine ⟨trivial, (fun h => by cases h), ?_⟩; gi_at_call 46; (with_reducible refine (callsIn_wide.2 (HRD _ hit0).out).mono ?_); rintro e' w1 ⟨rfl, hb0⟩; have hb1 := hit0.trans (hb0.mono hit0.size); obtain ⟨fn, tm, asg, bd, hy, hRd⟩ := yTok (w1.alloc (.cells #[.int .i64 k, .string ⟨t.toArray⟩, .int .u64 v, .int .i64 ln2, .int .i64 ((p : Int) + q - hd2 + 1)] 40)) (hb1.trans ((Below.refl _ w1).alloc hb1.size _)); clear hb0 hit0 HRD yTok)
                refine ⟨(fun h => by cases h), ?_⟩
                refine hRd.mono ?_
                rintro e' W3 (⟨rfl, hJ3, hg3, hk3⟩ | ⟨rfl, hx3⟩)
                · have hc3 : W3.cell? ⟨w1.heap.size, 1, none⟩ = some (.string ⟨t.toArray⟩) := by
                    rw [cell_of_heap (w := w1.alloc (.cells #[.int .i64 k, .string ⟨t.toArray⟩, .int .u64 v, .int .i64 ln2, .int .i64 ((p : Int) + q - hd2 + 1)] 40)) (hk3 w1.heap.size hb1.size (by simp))]
                    unfold World.cell?
                    rw [World.alloc_heap_new]
                    rfl
                  clear hk3 hy hRd
                  gi_wp2
                  refine ⟨⟨h + t.length, ln2, hd2, ct + 1, W3, congrArg (Value.int .i64) HW3.out, rfl, rfl, (by first | rfl | exact congrArg (Value.int .i64) HWc.out), r1, r5, r2, r3, ht3, hJ3, Below.refl _ _, hg3, HS⟩, ?_⟩
                  show src.length - ((p : Int) + q + t.length).toNat < src.length - ((p : Int)).toNat
                  rw [HW4.out]
                  exact r4
                · gi_wp2
                  refine ng_ret (results_none rfl _ _ _) rfl ?_
                  exact ⟨⟨_, rfl⟩, .inr ⟨ct, W3, ht4, hx3, Below.refl _ _⟩⟩
        · have hnx : ∀ ty, (Instr.next (.pointer (some ⟨wr.heap.size, 0, none⟩)) true ty).run Tryz.prog (wr.iter sb q) = _ := fun ty => run_next_end wr sb q ty (by omega)
          have he : scan (src.drop (p + q)) ln2 (p + q - hd2 + 1) ct = ([], none) := by rw [List.drop_eq_nil_of_le (by omega)]; exact scan_nil _ _ _
          rw [hinv2.out] at he
          have hfin : tot R = ct := tot_end he hct
          clear he hinv2 hasc hhig hext
          gi_wp2
          refine ng_ret (results_none rfl _ _ _) rfl ?_
          exact ⟨⟨_, rfl⟩, .inl ⟨W0, by rw [hfin]; exact hJ, hbel.trans ((Below.refl _ wr).alloc hbel.size _)⟩⟩
    · have d0 : decide ((p : Int) < src.length) = false := decide_eq_false (by omega)
      have he : scan (src.drop p) ln (p - hd + 1) ct = ([], none) := by rw [List.drop_eq_nil_of_le (by omega)]; exact scan_nil _ _ _
      rw [hinv.out] at he
      have hfin : tot R = ct := tot_end he hct
      clear he hinv hext
      gi_wp2
      refine ng_end (results_none rfl _ _ _) rfl ?_
      exact ⟨⟨_, rfl⟩, .inl ⟨W0, by rw [hfin]; exact hJ, hbel⟩⟩

end Go.Proofs.YtmekcccmnkgodaaGreatDoor
