import Derived.Test.YtpeojhhbinfekaaClockD
import Derived.Test.YtpeojhhbinfekaaClockZ
import Derived.ChangeOld
import Derived.SizedLaws
import Derived.Deep.Slices
import Derived.Deep.Strs
namespace Go.Proofs.Ytpeojhhbinfekaa
open Go.ChangeShapes Go.WideShapes Go.ChangeAt Go.RowKit

theorem addr_add (b off i : Nat) : (⟨b, off, none⟩ : Addr).add i = ⟨b, off + i, none⟩ := by
  unfold Addr.add
  by_cases hi : i = 0 <;> simp [hi]

def StepsAt (W : World) (sl : Option Addr) (len : Nat) (K C D : Nat → Int) : Prop :=
  len = 0 ∨ ∃ b off, sl = some ⟨b, off, none⟩ ∧ b < W.heap.size ∧ ∀ i, i < len → W.cell? ⟨b, off + i * 3, none⟩ = some (.int .i64 (K i)) ∧ W.cell? ⟨b, off + i * 3 + 1, none⟩ = some (.int .i64 (C i)) ∧ W.cell? ⟨b, off + i * 3 + 2, none⟩ = some (.int .u64 (D i)) ∧ 0 ≤ D i ∧ D i ≤ 18446744073709551615

theorem view_steps {H : Type} {enc : TypeId × Value → H} {W : World} {sl : Option Addr} {len cap : Nat} {d : DataW H} {p : List MemPlace}
    (h : DataW.Trod enc Try.prog W 0 (fun _ => true) true 35 (.slice sl len cap) d p) :
    ∃ K C D : Nat → Int, StepsAt W sl len K C D ∧ (len = 0 ∨ ∃ elems spare, d = .slice elems spare ∧ len ≤ elems.length) := by
  obtain ⟨fuel, hf⟩ := h
  rcases Deep.open_slice Try.underlying35 hf with ⟨hcs, hx⟩ | ⟨a, len', cap', m, nn, Dd, Pl, hcs, hb, hl, hm, hmm, hx, hel⟩
  · simp [Value.cells] at hcs
    exact ⟨fun _ => 0, fun _ => 0, fun _ => 0, .inl hcs.2.1, .inl hcs.2.1⟩
  · simp [Value.cells] at hcs
    obtain ⟨rfl, rfl, rfl⟩ := hcs
    simp only [Prod.mk.injEq] at hx
    have hd := hx.1
    simp only [if_true] at hmm
    subst hmm
    have each : ∀ i, i < len → ∃ q : Int × Int × Int, W.cell? (a.add (i * 3)) = some (.int .i64 q.1) ∧ W.cell? (a.add (i * 3 + 1)) = some (.int .i64 q.2.1) ∧ W.cell? (a.add (i * 3 + 2)) = some (.int .u64 q.2.2) ∧ 0 ≤ q.2.2 ∧ q.2.2 ≤ 18446744073709551615 := by
      intro i hi
      obtain ⟨cs', h1, h2⟩ := hel i (by omega)
      rw [show Try.prog.cellsOf 42 = 3 from by kernel_rfl] at h1
      obtain ⟨_, hlen, hcell⟩ := World.cells?_some h1
      obtain ⟨y0, y1, y2, k, _, _, t0, t1, t2⟩ := Deep.trod_struct3 Try.underlying42 h2
      obtain ⟨c0, c1, c2, rfl⟩ : ∃ c0 c1 c2, cs' = [c0, c1, c2] := by
        match cs', hlen with
        | [c0, c1, c2], _ => exact ⟨c0, c1, c2, rfl⟩
      have e3 : Try.prog.cellsOf 3 = 1 := by kernel_rfl
      have e22 : Try.prog.cellsOf 22 = 1 := by kernel_rfl
      simp [e3, e22] at t0 t1 t2
      obtain ⟨x0, s0, _, _⟩ := DataW.trod_int Try.underlying3 t0
      obtain ⟨x1, s1, _, _⟩ := DataW.trod_int Try.underlying3 t1
      obtain ⟨x2, s2, _, w2⟩ := DataW.trod_int Try.underlying22 t2
      simp at s0 s1 s2
      subst s0 s1 s2
      have g0 := hcell 0 (by omega)
      have g1 := hcell 1 (by omega)
      have g2 := hcell 2 (by omega)
      rw [Deep.add_add] at g0 g1 g2
      exact ⟨(x0, x1, x2), by simpa using g0, by simpa using g1, by simpa using g2, (bounds_u64 w2).1, (bounds_u64 w2).2⟩
    obtain ⟨q, hq⟩ := Deep.choose_lt (α := Int × Int × Int) each
    refine ⟨fun i => (q i).1, fun i => (q i).2.1, fun i => (q i).2.2, ?_, .inr ⟨_, _, hd, by simp⟩⟩
    rcases Nat.eq_zero_or_pos len with z | z
    · exact .inl z
    · obtain ⟨b, off, spot⟩ := a
      have h0 := (hq 0 z).1
      have hspot : spot = none := by simpa [Addr.add] using World.cell?_spot h0
      subst hspot
      have hbl := World.block_lt_of_cell? _ _ h0
      refine .inr ⟨b, off, rfl, by simpa [Addr.add] using hbl, fun i hi => ?_⟩
      obtain ⟨a1, a2, a3, a4, a5⟩ := hq i hi
      exact ⟨by simpa [addr_add] using a1, by simpa [addr_add, Nat.add_assoc] using a2, by simpa [addr_add, Nat.add_assoc] using a3, a4, a5⟩

theorem law_clocks_all (a0 : Int) (h0 : 0 ≤ a0 ∧ a0 ≤ 18446744073709551615) (sl : Option Addr) (len cap : Nat) (K C D : Nat → Int) (w : World)
    (hlen : len * 24 ≤ 140737488351232) (hv : StepsAt w sl len K C D) :
    Calls Try.prog 6 #[.int .u64 a0, .slice sl len cap] w fun e w' => e = .returned (.bool true) ∧ Below w.heap.size w w' := by
  rcases hv with rfl | ⟨b, off, rfl, hb, hc⟩
  · exact law_clocks0 a0 h0 sl cap w
  · exact law_clocks a0 h0 b off len cap K C D w hlen (fun _ => hb) (fun i hi => (hc i hi).1) (fun i hi => (hc i hi).2.1) (fun i hi => (hc i hi).2.2.1) (fun i hi => (hc i hi).2.2.2)

theorem stampClocks_own : ownKnob Try.prog.godebug = none := by kernel_rfl
theorem stampClocks_laidOut : laidOutB Try.prog = true := by kernel_rfl

set_option maxRecDepth 100000 in
theorem stampClocks_lifted (os : Os) (started : os.Started) (H : Type) (enc : TypeId × Value → H) :
    ReturnsInHanded {} Try.checked os 6 .any (Rows.stampClocksSpec.pre6 enc Try.prog Try.f6 Rows.stampClocksRow.domain false) (Rows.stampClocksSpec.post enc Try.prog Try.f6 false true false false) := by
  refine returnsInHanded_of_change_sized (C := Try.checked) stampClocks_own started (by kernel_rfl) Try.func6
    (ChangeSpec.witness6 (enc := enc) (C := Try.checked) false ⟨#[], #[.int .u64 0, .slice none 0 0], []⟩ 8 (by kernel_rfl) (by kernel_rfl) (by kernel_rfl) (by kernel_rfl)) ?_
  intro W base args ds gs before hval0 hW hcnd hsz0 hholds
  have hsz : (DataW.weightsEach Try.prog (Try.f6.params.toList ++ Rows.stampClocksSpec.plain.varTypes Try.prog) (ds ++ gs)).all (· ≤ reachBytes) = true := hsz0
  have hval : ∀ (j : Nat) t v, Try.f6.params[j]? = some t → args[j]? = some v → Value.okWide Try.prog W .any base t v := hval0
  have hW' := hW
  obtain ⟨p, q, hA0, hV, rfl, hfz, hnd⟩ := hW
  have hA : DataW.TrodAll enc Try.prog W 0 (fun _ => true) true Try.f6.params.toList args.toList ds p := hA0
  rw [Try.params6] at hA hval hsz
  obtain ⟨v0, vs0, d0, ds0, p0, q0, hargs, rfl, rfl, h0, r0⟩ := trodAll_cons hA
  obtain ⟨v1, vs1, d1, ds1, p1, q1, rfl, rfl, rfl, h1, r1⟩ := trodAll_cons r0
  obtain ⟨rfl, rfl, rfl⟩ := trodAll_nil r1
  obtain rfl : args = #[v0, v1] := by cases args; simp_all
  obtain ⟨rfl, rfl⟩ := trodVars_none hV
  have k0 := h0
  have lt0 : ∀ x ∈ p0, x.block < W.heap.size := by obtain ⟨m, hm⟩ := k0; exact DataW.trod_lt m _ _ _ hm
  have k1 := h1
  have lt1 : ∀ x ∈ p1, x.block < W.heap.size := by obtain ⟨m, hm⟩ := k1; exact DataW.trod_lt m _ _ _ hm
  obtain ⟨a0, rfl, rfl, rfl, w0⟩ := open_int Try.underlying22 (hval 0 22 v0 rfl rfl) h0
  obtain ⟨sl, len, cap, rfl⟩ := okWide_slice Try.underlying35 (hval 1 35 v1 rfl rfl)
  obtain ⟨K, C, D, hst, hsp⟩ := view_steps h1
  have hlen : len * 24 ≤ 140737488351232 := by
    rcases hsp with rfl | ⟨elems, spare, hd, hle⟩
    · omega
    · have := sized_slice hsz (j := 1) (t := 35) (e := 42) rfl (by rw [hd]; rfl) Try.underlying35
      rw [show Try.prog.bytesOf 42 = 24 from by kernel_rfl] at this
      simp only [reachBytes] at this
      have h24 : len * 24 ≤ (elems.length + spare.length) * 24 := Nat.mul_le_mul_right 24 (by omega)
      omega
  clear hA0 hval0
  refine (law_clocks_all a0 (bounds_u64 w0) sl len cap K C D W hlen hst).mono fun e W' ⟨he, bel⟩ => ?_
  subst he
  exact ⟨_, rfl, _, _, _, [], _, [], hW', trodAll_mk1 (shut_bool Try.underlying4 _), (trodAll_cons_mk (Below.trod stampClocks_laidOut (by kernel_rfl) (of_decide_eq_true (by kernel_rfl)) k0 bel lt0) (trodAll_cons_mk (Below.trod stampClocks_laidOut (by kernel_rfl) (of_decide_eq_true (by kernel_rfl)) k1 bel lt1) trodAll_mk0)), rfl, bel.frame _, fun h => by cases h⟩

theorem stampClocks_holds : Rows.StampClocksSaid :=
  OpenClaim.holds_of_wide 6 Try.f6 rfl rfl rfl rfl rfl rfl rfl ⟨rfl, rfl, rfl, rfl, rfl⟩ rfl rfl rfl rfl rfl (by kernel_rfl) Try.func6 (by kernel_rfl)
    (of_decide_eq_true (by kernel_rfl)) (by unfold Func.isWrapper; first | (rw [if_pos (by decide +kernel)]; kernel_rfl) | (rw [if_neg (by decide +kernel)]; exact ⟨rfl, rfl⟩))
    (fun os started H enc _ => stampClocks_lifted os started H enc)
#print axioms stampClocks_holds
end Go.Proofs.Ytpeojhhbinfekaa
