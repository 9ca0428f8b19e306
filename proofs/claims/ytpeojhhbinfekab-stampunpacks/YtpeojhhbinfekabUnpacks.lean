import Derived.Test.YtpeojhhbinfekabBytes2
import Derived.Test.YtpeojhhbinfekabRefEv2
import Derived.ChangeOld
import Derived.SizedLaws
import Derived.WalkLawsBesides
namespace Go.Proofs.Ytpeojhhbinfekab
open Go.ChangeShapes Go.WideShapes Go.ChangeAt Go.RowKit

set_option maxHeartbeats 2000000 in
theorem law_unpacks (sl : Option Addr) (L cap : Nat) (B : Nat → Int) (w : World) (hL : L ≤ 140737488351232) (h : BytesAt w sl L B) :
    Calls Try.prog 4 #[.slice sl L cap] w fun r w' => r = .returned (.bool true) ∧ Below w.heap.size w w' := by
  obtain ⟨v0, v1, v2, v3, v4, v5, hv⟩ : ∃ v0 v1 v2 v3 v4 v5 : Int, (if (evR5 B L 0 0).2.2 = 0 then evVals B L 0 0 else zeroEv) = #[.int .u64 v0, .int .i64 v1, .int .u64 v2, .int .i64 v3, .int .i64 v4, .int .i64 v5] := by
    split
    · exact ⟨_, _, _, _, _, _, rfl⟩
    · exact ⟨_, _, _, _, _, _, rfl⟩
  have hun := fun (W : World) (g cp : Nat) (hg : g < W.heap.size) (hB : ∀ i, i < L → W.cell? ⟨g, 0 + i, none⟩ = some (.int .u8 (B i))) => unpack_any g 0 L cp B W (by omega) hg hB h.2
  have hre := fun (W : World) (hW : BytesAt W sl L B) => refUnpack_any sl L cap B W (by omega) hW
  rw [hv] at hun hre
  obtain ⟨n, hn⟩ : ∃ n : Int, (if (evR5 B L 0 0).2.2 = 0 then ((evR5 B L 0 0).2.1 : Int) else 0) = n := ⟨_, rfl⟩
  obtain ⟨e, he⟩ : ∃ e : Int, (evR5 B L 0 0).2.2 = e := ⟨_, rfl⟩
  rw [hn, he] at hun hre
  have HU : Hid (∀ (W : World) (g cp : Nat) (_ : g < W.heap.size) (_ : ∀ i, i < L → W.cell? ⟨g, 0 + i, none⟩ = some (.int .u8 (B i))), Calls Try.prog 12 #[.slice (some ⟨g, 0, none⟩) L cp] W fun r w' => r = .returned (.tuple #[.agg #[.int .u64 v0, .int .i64 v1, .int .u64 v2, .int .i64 v3, .int .i64 v4, .int .i64 v5], .int .i64 n, .int .i64 e]) ∧ Below W.heap.size W w') := hun
  have HE : Hid (∀ W, BytesAt W sl L B → Calls Try.prog 13 #[.slice sl L cap] W fun r w' => r = .returned (.tuple #[.agg #[.int .u64 v0, .int .i64 v1, .int .u64 v2, .int .i64 v3, .int .i64 v4, .int .i64 v5], .int .i64 n, .int .i64 e]) ∧ Below W.heap.size W w') := hre
  clear hun hre hv hn he
  go_enter Try.func4, Try.ntmps4
  go_wp2_with fail
  refine (roomyBytes_any sl L cap B _ hL h).mono ?_
  rintro x w1 ⟨g, cp, rfl, hown, hb1⟩
  have hB1 := bytesAt_own hown (by omega) h.2
  have hgl : g < w1.heap.size := by
    obtain ⟨_, hx | ⟨g', cp, cur, hv, _, hh, _⟩⟩ := hown
    · simp at hx
    · simp at hv
      obtain ⟨rfl, _⟩ := hv
      exact lt_of_block hh
  have hcells : ∀ i, i < L → w1.cell? ⟨g, 0 + i, none⟩ = some (.int .u8 (B i)) := by
    intro i hi
    obtain ⟨hx | ⟨b1, o1, he, _, k1⟩, _⟩ := hB1
    · omega
    · simp at he
      obtain ⟨rfl, rfl⟩ := he
      exact k1 i hi
  have h1 := h.below hb1
  clear hB1 h
  go_wp2_with fail
  refine (HU.out _ g cp hgl hcells).mono ?_
  rintro x w2 ⟨rfl, hb2⟩
  clear hcells
  go_wp2_with fail
  have hz2 := hb2.size
  have hb2' := hb2.alloc hb2.size (.cells #[.int .u64 v0, .int .i64 v1, .int .u64 v2, .int .i64 v3, .int .i64 v4, .int .i64 v5] 35)
  refine (HE.out _ (h1.below hb2')).mono ?_
  rintro x w3 ⟨rfl, hb3⟩
  have hz3 : w2.heap.size + 1 ≤ w3.heap.size := by have := hb3.size; simpa using this
  have hc3 := block6 ((hb3.block w2.heap.size (by simp)).trans (heap_alloc_new w2 (.cells #[.int .u64 v0, .int .i64 v1, .int .u64 v2, .int .i64 v3, .int .i64 v4, .int .i64 v5] 35)))
  have hb3' : Below w1.heap.size w1 w3 := hb2'.trans (hb3.mono (by simp; omega))
  have hb4 := hb3'.alloc (by omega) (.cells #[.int .u64 v0, .int .i64 v1, .int .u64 v2, .int .i64 v3, .int .i64 v4, .int .i64 v5] 35)
  have hlt : w2.heap.size < w3.heap.size := by omega
  clear hb3
  have m0 : (v0 == v0) = true := by simp
  have m1 : (v1 == v1) = true := by simp
  have m2 : (v2 == v2) = true := by simp
  have m3 : (v3 == v3) = true := by simp
  have m4 : (v4 == v4) = true := by simp
  have m5 : (v5 == v5) = true := by simp
  have hown4 : ∀ W, Below w1.heap.size w1 W → W.ownsRow w.heap.size 5 1 (.slice (some ⟨g, 0, none⟩) (L + 2) cp) (L + 2) (bytesL B L ++ [.int .u8 165, .int .u8 90]) := fun W hW => by
    obtain ⟨hx1, hx | ⟨g', cp', cur, hv, hbg, hh, r⟩⟩ := hown
    · simp at hx
    · have hv' := hv
      simp at hv
      obtain ⟨rfl, _⟩ := hv
      exact ⟨hx1, .inr ⟨g, cp', cur, hv', hbg, (hW.block g hgl).trans hh, r⟩⟩
  go_wp2_with fail
  refine (marked_any sl L cap w.heap.size g cp B _ hL (h1.below hb4) (hown4 _ hb4)).mono ?_
  rintro x w5 ⟨rfl, hb5⟩
  have hbf : Below w.heap.size w w5 := hb1.trans ((hb4.trans (hb5.mono (by simp; omega))).mono hb1.size)
  clear hown4 hb4 hb3' hc3
  go_wp2_with fail
  go_ret
  exact ⟨rfl, hbf⟩

theorem view_bytes {H : Type} {enc : TypeId × Value → H} {W : World} {sl : Option Addr} {len cap : Nat} {d : DataW H} {p : List MemPlace}
    (h : DataW.Trod enc Try.prog W 0 (fun _ => true) true 31 (.slice sl len cap) d p) :
    ∃ B : Nat → Int, BytesAt W sl len B ∧ (len = 0 ∨ ∃ elems spare, d = .slice elems spare ∧ len ≤ elems.length) := by
  obtain ⟨fuel, hf⟩ := h
  rcases open_ints Try.underlying31 Try.underlying5 (by kernel_rfl) hf with ⟨hcs, _⟩ | ⟨x, l, c, zs, hcs, _, hl, hm, hz, hx, hcell, hwz⟩
  · simp [Value.cells] at hcs
    obtain ⟨_, rfl, _⟩ := hcs
    exact ⟨fun _ => 0, ⟨.inl rfl, fun i hi => by omega⟩, .inl rfl⟩
  · simp [Value.cells] at hcs
    obtain ⟨rfl, rfl, rfl⟩ := hcs
    simp only [if_true] at hz
    have bB : ∀ i, i < len → 0 ≤ zs.getD i 0 ∧ zs.getD i 0 ≤ 255 := by
      intro i hi
      have hi' : i < zs.length := by omega
      have := bounds_u8 (hwz _ (List.getElem_mem hi'))
      simpa [List.getD, hi'] using this
    refine ⟨fun i => zs.getD i 0, ⟨?_, bB⟩, ?_⟩
    · rcases Nat.eq_zero_or_pos len with z | z
      · exact .inl z
      · obtain ⟨b, off, spot⟩ := x
        have h0 := hcell 0 (by omega)
        have hspot : spot = none := by simpa [Addr.add] using World.cell?_spot h0
        subst hspot
        have hbl := World.block_lt_of_cell? _ _ h0
        exact .inr ⟨b, off, rfl, by simpa [Addr.add] using hbl, fun i hi => by simpa [addr_add] using hcell i (by omega)⟩
    · rcases Nat.eq_zero_or_pos len with z | z
      · exact .inl z
      · simp only [Prod.mk.injEq] at hx
        exact .inr ⟨_, _, hx.1, by simp [lits]; omega⟩

theorem stampUnpacks_own : ownKnob Try.prog.godebug = none := by kernel_rfl
theorem stampUnpacks_laidOut : laidOutB Try.prog = true := by kernel_rfl

set_option maxRecDepth 100000 in
theorem stampUnpacks_lifted (os : Os) (started : os.Started) (H : Type) (enc : TypeId × Value → H) :
    ReturnsInHanded {} Try.checked os 4 .any (Rows.stampUnpacksSpec.pre6 enc Try.prog Try.f4 Rows.stampUnpacksRow.domain false) (Rows.stampUnpacksSpec.post enc Try.prog Try.f4 false true false false) := by
  refine returnsInHanded_of_change_sized (C := Try.checked) stampUnpacks_own started (by kernel_rfl) Try.func4
    (ChangeSpec.witness6 (enc := enc) (C := Try.checked) false ⟨#[], #[.slice none 0 0], []⟩ 8 (by kernel_rfl) (by kernel_rfl) (by kernel_rfl) (by kernel_rfl)) ?_
  intro W base args ds gs before hval0 hW hcnd hsz0 hholds
  have hsz : (DataW.weightsEach Try.prog (Try.f4.params.toList ++ Rows.stampUnpacksSpec.plain.varTypes Try.prog) (ds ++ gs)).all (· ≤ reachBytes) = true := hsz0
  have hval : ∀ (j : Nat) t v, Try.f4.params[j]? = some t → args[j]? = some v → Value.okWide Try.prog W .any base t v := hval0
  have hW' := hW
  obtain ⟨p, q, hA0, hV, rfl, hfz, hnd⟩ := hW
  have hA : DataW.TrodAll enc Try.prog W 0 (fun _ => true) true Try.f4.params.toList args.toList ds p := hA0
  rw [Try.params4] at hA hval hsz
  obtain ⟨v0, vs0, d0, ds0, p0, q0, hargs, rfl, rfl, h0, r0⟩ := trodAll_cons hA
  obtain ⟨rfl, rfl, rfl⟩ := trodAll_nil r0
  obtain rfl : args = #[v0] := by cases args; simp_all
  obtain ⟨rfl, rfl⟩ := trodVars_none hV
  have k0 := h0
  have lt0 : ∀ x ∈ p0, x.block < W.heap.size := by obtain ⟨m, hm⟩ := k0; exact DataW.trod_lt m _ _ _ hm
  obtain ⟨sl, len, cap, rfl⟩ := okWide_slice Try.underlying31 (hval 0 31 v0 rfl rfl)
  obtain ⟨B, hst, hsp⟩ := view_bytes h0
  have hlen : len ≤ 140737488351232 := by
    rcases hsp with rfl | ⟨elems, spare, hd, hle⟩
    · omega
    · have := sized_slice hsz (j := 0) (t := 31) (e := 5) rfl (by rw [hd]; rfl) Try.underlying31
      rw [show Try.prog.bytesOf 5 = 1 from by kernel_rfl] at this
      simp only [reachBytes] at this
      omega
  clear hA0 hval0
  refine (law_unpacks sl len cap B W hlen hst).mono fun e W' ⟨he, bel⟩ => ?_
  subst he
  exact ⟨_, rfl, _, _, _, [], _, [], hW', trodAll_mk1 (shut_bool Try.underlying4 _), (trodAll_cons_mk (Below.trod stampUnpacks_laidOut (by kernel_rfl) (of_decide_eq_true (by kernel_rfl)) k0 bel lt0) trodAll_mk0), rfl, bel.frame _, fun h => by cases h⟩

theorem stampUnpacks_holds : Rows.StampUnpacksSaid :=
  OpenClaim.holds_of_wide 4 Try.f4 rfl rfl rfl rfl rfl rfl rfl ⟨rfl, rfl, rfl, rfl, rfl⟩ rfl rfl rfl rfl rfl (by kernel_rfl) Try.func4 (by kernel_rfl)
    (of_decide_eq_true (by kernel_rfl)) (by unfold Func.isWrapper; first | (rw [if_pos (by decide +kernel)]; kernel_rfl) | (rw [if_neg (by decide +kernel)]; exact ⟨rfl, rfl⟩))
    (fun os started H enc _ => stampUnpacks_lifted os started H enc)
#print axioms stampUnpacks_holds
end Go.Proofs.Ytpeojhhbinfekab
