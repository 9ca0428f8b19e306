import Derived.Test.YtcibmbcfpecgpaaK2
namespace Go.Proofs.Ytcibmbcfpecgpaa
open Go.ChangeShapes Go.WideShapes Go.ChangeAt Go.RowKit
set_option linter.unusedVariables false

theorem evb_pos (t q : Nat) (s d k v : Int) : 0 < (evb t q s d k v).length := by
  unfold evb
  have := enc_pos t
  simp only [List.length_append]
  omega

set_option maxRecDepth 100000 in
set_option maxHeartbeats 2000000 in
theorem rPackAll_any (es : List Ev) (sl : Option Addr) (cap : Nat) (w : World) (h : EvsAt w sl es) (hL : es.length ≤ 1000000000000) :
    Calls Try.prog 6 #[.slice sl es.length cap] w fun e w' => ∃ v', e = .returned v' ∧ w'.ownsRow w.heap.size 5 1 v' (enc es.length ++ evsB es).length (bcs (enc es.length ++ evsB es)) ∧ Below w.heap.size w w' := by
  obtain ⟨i5, hi5, ha5, hb5, hc5⟩ := infoQ Try.info5'
  have l10 := enc_len10 es.length (by omega)
  have HH : Hid (EvsAt w sl es) := h
  clear h
  go_enter Try.func6, Try.ntmps6
  go_wp2_with fail
  refine (rNum_any es.length (by omega) w).mono ?_
  rintro e w1 ⟨v1, rfl, o1, b1⟩
  have o1' : w1.ownsRow w.heap.size 5 1 v1 (enc es.length ++ evsB (es.take 0)).length (bcs (enc es.length ++ evsB (es.take 0))) := by simpa [evsB] using o1
  have HO : Hid (w1.ownsRow w.heap.size 5 1 v1 (enc es.length ++ evsB (es.take 0)).length (bcs (enc es.length ++ evsB (es.take 0)))) := o1'
  clear o1 o1'
  go_wp2_with fail
  go_loopw [3, 12] (fun vb vi wr => ∃ i : Nat, vi = .int .i64 i ∧ i ≤ es.length ∧ wr.ownsRow w.heap.size 5 1 vb (enc es.length ++ evsB (es.take i)).length (bcs (enc es.length ++ evsB (es.take i))) ∧ Below w.heap.size w wr) (fun _ vi _ => es.length - (intOf vi).toNat)
  case atStart => exact ⟨0, rfl, Nat.zero_le _, HO.out, b1⟩
  case round =>
    obtain ⟨i, rfl, hi, ho, hb⟩ := hrel
    by_cases hlt : i < es.length
    · have hE := HH.out.below hb
      obtain ⟨hx | ⟨b, off, rfl, hbl, hc⟩, hin⟩ := hE
      · omega
      obtain ⟨c0, c1, c2, c3, c4, c5⟩ := hc i hlt
      have hI := hin es[i] (List.getElem_mem hlt)
      have hle := evsB_len (es.take i) (fun x hx => hin x (List.mem_of_mem_take hx))
      have hnx : evsB (es.take (i + 1)) = evsB (es.take i) ++ es[i].bytes := by rw [List.take_succ_eq_append_getElem hlt, evsB_app]; simp [evsB]
      have hel := hI.len
      have hal : (enc es.length ++ evsB (es.take i)).length ≤ 10 + 60 * es.length := by
        rw [List.length_append]
        have := List.length_take_le i es
        omega
      have HX : Hid (enc es.length ++ evsB (es.take (i + 1)) = (enc es.length ++ evsB (es.take i)) ++ es[i].bytes) := by
        show _ = _
        rw [hnx, List.append_assoc]
      generalize enc es.length ++ evsB (es.take i) = A at ho hal HX
      clear hc hin hle hnx
      have hep := evb_pos es[i].t es[i].q es[i].s es[i].d es[i].k es[i].v
      generalize hev : es[i] = ev at *
      clear hev
      have hel' : (evb ev.t ev.q ev.s ev.d ev.k ev.v).length ≤ 60 := hel
      have i0 : (0 : Int) ≤ (i : Int) := by omega
      have i1 : (i : Int) < (es.length : Int) := by omega
      have hsz := hb.size
      have HB : Hid (Below w.heap.size w wr) := hb
      have HOW : Hid (wr.ownsRow w.heap.size 5 1 u3 A.length (bcs A)) := ho
      have p1 : A.length + (evb ev.t ev.q ev.s ev.d ev.k ev.v).length ≤ maxLen := by unfold maxLen; omega
      have p2 : (A.length + (evb ev.t ev.q ev.s ev.d ev.k ev.v).length) * 1 ≤ 140737488355328 := by omega
      have HC : ∀ W, Hid (Calls Try.prog 7 #[.agg #[.int .u64 ev.t, .int .i64 ev.s, .int .u64 ev.q, .int .i64 ev.d, .int .i64 ev.k, .int .i64 ev.v]] W fun e w' => ∃ g c, e = .returned (.slice (some ⟨g, 0, none⟩) (evb ev.t ev.q ev.s ev.d ev.k ev.v).length c) ∧ w'.ownsRow W.heap.size 5 1 (.slice (some ⟨g, 0, none⟩) (evb ev.t ev.q ev.s ev.d ev.k ev.v).length c) (evb ev.t ev.q ev.s ev.d ev.k ev.v).length (bcs (evb ev.t ev.q ev.s ev.d ev.k ev.v)) ∧ Below W.heap.size W w') := fun W => rPack_any _ _ _ _ _ _ hI.t hI.q hI.s hI.d hI.k hI.v W
      clear ho hb hel hal hI
      go_wp2_with fail
      refine (HC _).out.mono ?_
      rintro e w2 ⟨g2, c2, rfl, o2, b2⟩
      have hb2 : Hid (Below w.heap.size w w2) := (HB.out.alloc HB.out.size _).trans (b2.mono (by simp; omega))
      have ho2 : Hid (w2.ownsRow w.heap.size 5 1 u3 A.length (bcs A)) := own_below2 (HOW.out.alloc _) b2
      have HO2 : Hid (w2.ownsRow (wr.alloc (.cells #[.int .u64 ev.t, .int .i64 ev.s, .int .u64 ev.q, .int .i64 ev.d, .int .i64 ev.k, .int .i64 ev.v] 26)).heap.size 5 1 (.slice (some ⟨g2, 0, none⟩) (evb ev.t ev.q ev.s ev.d ev.k ev.v).length c2) (evb ev.t ev.q ev.s ev.d ev.k ev.v).length (bcs (evb ev.t ev.q ev.s ev.d ev.k ev.v))) := o2
      clear o2 b2
      go_wp2_with (at_builtin; refine wpList_append_own_at _ rfl _ _ 29 rfl w.heap.size 5 i5 _ 1 1 Try.underlying29 hi5 ha5 hb5 hc5 rfl (by decide) _ _ _ rfl ho2.out ⟨g2, 0, none⟩ _ c2 (bcs (evb ev.t ev.q ev.s ev.d ev.k ev.v)) rfl (by rw [bcs_len, Nat.mul_one]) (own_news HO2.out) (bcs_one _) p1 p2 hb2.out.size ?_; intro v' w5 ow5 gr5 _ _)
      have hb5 := hb2.out.grown gr5 hb2.out.size (fun r e => own_base2 ho2.out e)
      rw [← bcs_app, ← List.length_append] at ow5
      refine ⟨⟨i + 1, rfl, hlt, ?_, hb5⟩, by simp [intOf]; omega⟩
      rw [HX.out]
      exact ow5
    · have HF : Hid (enc es.length ++ evsB (es.take i) = enc es.length ++ evsB es) := by rw [List.take_of_length_le (by omega)]; exact rfl
      have HO2 : Hid (wr.ownsRow w.heap.size 5 1 u3 (enc es.length ++ evsB (es.take i)).length (bcs (enc es.length ++ evsB (es.take i)))) := ho
      clear ho
      go_wp2_with fail
      go_ret
      refine ⟨_, rfl, ?_, hb⟩
      rw [← HF.out]
      exact HO2.out
end Go.Proofs.Ytcibmbcfpecgpaa
