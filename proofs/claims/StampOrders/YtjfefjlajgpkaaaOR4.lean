import Derived.Test.YtjfefjlajgpkaaaOR3
namespace Go.Proofs.Ytjfefjlajgpkaaa
open Go.ChangeShapes Go.WideShapes Go.ChangeAt Go.RowKit
set_option linter.unusedVariables false
set_option linter.unusedSimpArgs false

/-- five lists of events of the call's own, told apart -/
theorem five_lists {W : World} {base ga go gb gg gn T nf b1 b2 b3 b4 b5 : Nat} {d1 d2 d3 d4 d5 : Nat → Se} (h1 : SRow W b1 ga T T d1) (h2 : SRow W b2 go nf nf d2) (h3 : SRow W b3 gb T T d3) (h4 : SRow W b4 gg nf nf d4) (h5 : SRow W b5 gn 0 0 d5) (e1 : base ≤ ga) (e2 : ga < gb) (e3 : gb < go) (e4 : go < gg) (e5 : gg < gn) :
    Lists W base 51 6 5 (fun k => ([.slice (some ⟨ga, 0, none⟩) T T, .slice (some ⟨go, 0, none⟩) nf nf, .slice (some ⟨gb, 0, none⟩) T T, .slice (some ⟨gg, 0, none⟩) nf nf, .slice (some ⟨gn, 0, none⟩) 0 0] : List Value).getD k undef) (fun k => [T, nf, T, nf, 0].getD k 0) (fun k => [seF d1, seF d2, seF d3, seF d4, seF d5].getD k (fun _ => undef)) := by
  have lo : ∀ {b g n : Nat} {d : Nat → Se}, SRow W b g n n d → base ≤ g → Own W base 51 6 (.slice (some ⟨g, 0, none⟩) n n) n (seF d) := fun {b g n d} h hg => by
    obtain ⟨cur, k1, k2, k3, k4, k5, k6⟩ := Own.block h
    exact Own.mk' k1 k2 k3 k4 hg k6
  refine ⟨fun k hk => ?_, fun j k hj hk hjk => ?_⟩
  · rcases k with _ | _ | _ | _ | _ | k
    · exact lo h1 e1
    · exact lo h2 (by omega)
    · exact lo h3 (by omega)
    · exact lo h4 (by omega)
    · exact lo h5 (by omega)
    · omega
  · right
    rcases j with _ | _ | _ | _ | _ | j
    all_goals (first | omega | (rcases k with _ | _ | _ | _ | _ | k))
    all_goals (first | omega | (simp [Value.ownBlock]; omega))
theorem five_apart {W : World} {base T nf ga go gb gg gn b1 b2 b3 b4 b5 : Nat} {d1 d2 d3 d4 d5 : Nat → Se} (h1 : SRow W b1 ga T T d1) (h2 : SRow W b2 go nf nf d2) (h3 : SRow W b3 gb T T d3) (h4 : SRow W b4 gg nf nf d4) (h5 : SRow W b5 gn 0 0 d5) (e1 : base ≤ ga) (e2 : ga < gb) (e3 : gb < go) (e4 : go < gg) (e5 : gg < gn) (hT : T ≤ 1048576) (hf : nf ≤ 1048576) (hb : base ≤ W.heap.size) :
    Calls Try.prog 13 #[.slice (some ⟨W.heap.size, 0, none⟩) 5 5] (W.alloc (.cells #[.slice (some ⟨ga, 0, none⟩) T T, .slice (some ⟨go, 0, none⟩) nf nf, .slice (some ⟨gb, 0, none⟩) T T, .slice (some ⟨gg, 0, none⟩) nf nf, .slice (some ⟨gn, 0, none⟩) 0 0] 23)) fun e w' => e = .returned (.bool true) ∧ Below base W w' := by
  have hba : Below W.heap.size W (W.alloc (.cells #[.slice (some ⟨ga, 0, none⟩) T T, .slice (some ⟨go, 0, none⟩) nf nf, .slice (some ⟨gb, 0, none⟩) T T, .slice (some ⟨gg, 0, none⟩) nf nf, .slice (some ⟨gn, 0, none⟩) 0 0] 23)) := (Below.refl _ W).alloc (Nat.le_refl _) _
  have hnew : (W.alloc (.cells #[.slice (some ⟨ga, 0, none⟩) T T, .slice (some ⟨go, 0, none⟩) nf nf, .slice (some ⟨gb, 0, none⟩) T T, .slice (some ⟨gg, 0, none⟩) nf nf, .slice (some ⟨gn, 0, none⟩) 0 0] 23)).heap[W.heap.size]? = some (.cells #[.slice (some ⟨ga, 0, none⟩) T T, .slice (some ⟨go, 0, none⟩) nf nf, .slice (some ⟨gb, 0, none⟩) T T, .slice (some ⟨gg, 0, none⟩) nf nf, .slice (some ⟨gn, 0, none⟩) 0 0] 23 (0, 0)) := World.alloc_heap_new W _
  refine (apartEv 5 5 W.heap.size base (by omega) (fun k => ([.slice (some ⟨ga, 0, none⟩) T T, .slice (some ⟨go, 0, none⟩) nf nf, .slice (some ⟨gb, 0, none⟩) T T, .slice (some ⟨gg, 0, none⟩) nf nf, .slice (some ⟨gn, 0, none⟩) 0 0] : List Value).getD k undef) (fun k => [T, nf, T, nf, 0].getD k 0) _ (fun k hk => ?_) _ (lt_of_block hnew) (fun k hk => ?_) ⟨_, _, hnew⟩ (five_lists (SRow.later h1 hba) (SRow.later h2 hba) (SRow.later h3 hba) (SRow.later h4 hba) (SRow.later h5 hba) e1 e2 e3 e4 e5) (Nat.le_trans hb hba.size)).mono ?_
  · rcases k with _ | _ | _ | _ | _ | k
    all_goals (first | omega | (simp; omega) | simp)
  · unfold World.cell?
    rw [hnew]
    rcases k with _ | _ | _ | _ | _ | k
    all_goals (first | omega | rfl)
  · rintro e w' ⟨h8, h9⟩
    exact ⟨h8, (hba.mono hb).trans h9⟩
theorem bool_iff {a b : Bool} {P : Prop} (h : a = true ↔ P) (h' : b = true ↔ P) : a = b := by
  cases a <;> cases b
  · rfl
  · exact h.2 (h'.1 rfl)
  · exact (h'.2 (h.1 rfl)).symm
  · rfl
set_option maxRecDepth 100000 in
set_option maxHeartbeats 8000000 in
theorem orders_law (p : Option Addr) (m cp : Nat) (Y : Nat → LsP) (hm : m ≤ 1048576) (hn : offL Y m ≤ 1048576) (w : World) (h : LsIn w p m Y) : Calls Try.prog 3 #[.slice p m cp] w fun e w' => e = .returned (.bool true) ∧ Below w.heap.size w w' := by
  obtain ⟨iL, hL1, hL2, hL3, hL4⟩ := sinfo infoLT
  have HH : Hid (LsIn w p m Y) := h
  clear h
  go_enter Try.func3, Try.ntmps3
  go_wp2_with fail
  go_loopw [3, 4, 5, 21] (fun fv rv gv x wr => ∃ (k : Nat) (G : Nat → Nat), x = .int .i64 (k : Int) ∧ k ≤ m ∧ fv = .slice (fsY Y k).p (fsY Y k).n (fsY Y k).c ∧ RI w wr Y k k k G rv gv) (fun _ _ _ x _ => m - (intOf x).toNat)
  case atStart => exact ⟨0, fun _ => 0, rfl, Nat.zero_le _, rfl, RI.zero⟩
  case round =>
    obtain ⟨k, G, rfl, hk, hfv, hri⟩ := hrel
    by_cases hlt : k < m
    case pos =>
      have dlt : decide ((k : Int) < (m : Int)) = true := by simp; omega
      have i0 : (0 : Int) ≤ (k : Int) := by omega
      have i1 : (k : Int) < (m : Int) := by omega
      have ei : IntKind.i64.wrap ((k : Int) + 1) = (k : Int) + 1 := by rw [IntKind.wrap_i64]; omega
      have hme := meas hlt
      have hl := HH.out.below hri.bel
      rcases hl.1 with hz | ⟨b, o, hp, hlb, hc⟩
      · omega
      have c0 := hc k hlt
      have hnk := n_le (Y := Y) hlt
      obtain ⟨nk, hnn⟩ : ∃ nk, (Y k).n = nk := ⟨_, rfl⟩
      have HR := sroomy_any (Y k).X (Y k).p (Y k).n (Y k).c wr (hl.2 k hlt) (by omega)
      have HR : Calls Try.prog 5 #[.slice (Y k).p nk (Y k).c] wr fun e w' => e = .returned (.slice (some ⟨wr.heap.size, 0, none⟩) (nk + 3) (nk + 3)) ∧ SRow w' wr.heap.size wr.heap.size ((Y k).n + 3) ((Y k).n + 3) (rX (Y k).X (Y k).n ((Y k).n + 3)) ∧ Below wr.heap.size wr w' := by rw [← hnn]; exact HR
      rw [hnn] at c0 hnk
      have n0 : (0 : Int) ≤ (nk : Int) := by omega
      have n1 : (nk : Int) ≤ (nk : Int) + 3 := by omega
      have n2 : nk ≤ nk + 3 := by omega
      have HN : Hid ((Y k).n = nk) := hnn
      have HRI : Hid (RI w wr Y k k k G u4 u5) := hri
      have p1 : k + 1 ≤ maxLen := by unfold maxLen; omega
      have p2 : (k + 1) * 24 ≤ 140737488355328 := by omega
      rw [hp]
      clear hl hc hlb hri hp hnn
      by_cases hk0 : k = 0
      · have b0 : ((k : Int) == 0) = true := by simp; omega
        have HFS : Hid (Value.slice (Y k).p nk (Y k).c = .slice (fsY Y (k + 1)).p (fsY Y (k + 1)).n (fsY Y (k + 1)).c) := by
          show _ = _
          unfold fsY
          rw [if_neg (by omega), ← HN.out, hk0]
        clear hfv hk0
        go_upto_region 9 with (go_at_call 5; (with_reducible refine HR.mono ?_); rintro e w1 ⟨rfl, hr1, hb1⟩)
        have R1 := RI.row HRI.out hb1 hr1
        obtain ⟨wa, hwa⟩ : ∃ wa, w1.alloc (.cells #[.slice (some ⟨wr.heap.size, 0, none⟩) (nk + 3) (nk + 3)] 23) = wa := ⟨_, rfl⟩
        have hba : Below w1.heap.size w1 wa := by rw [← hwa]; exact (Below.refl _ w1).alloc (Nat.le_refl _) _
        have R2 := R1.later hba
        have hcel : ∀ j y, [.slice (some ⟨wr.heap.size, 0, none⟩) (nk + 3) (nk + 3)][j]? = some y → wa.cell? ((⟨w1.heap.size, 0, none⟩ : Addr).add j) = some y := by rw [← hwa]; exact scells_new w1 [.slice (some ⟨wr.heap.size, 0, none⟩) (nk + 3) (nk + 3)] _
        have HR2 : Hid (RI w wa Y (k + 1) k k (ext G k wr.heap.size) u4 u5 ∧ (∀ j y, [.slice (some ⟨wr.heap.size, 0, none⟩) (nk + 3) (nk + 3)][j]? = some y → wa.cell? ((⟨w1.heap.size, 0, none⟩ : Addr).add j) = some y)) := ⟨R2, hcel⟩
        have HWA : Hid (w1.alloc (.cells #[.slice (some ⟨wr.heap.size, 0, none⟩) (nk + 3) (nk + 3)] 23) = wa) := hwa
        clear R1 R2 hcel hwa hba hr1 hb1 HR HRI
        go_upto_region 10 with (at_builtin; rw [HWA.out]; refine wpList_append_own_at _ rfl _ _ 22 rfl w.heap.size 23 iL _ 1 24 Try.underlying22 hL1 hL2 hL3 hL4 rfl (by decide) _ _ _ rfl HR2.out.1.rooms ⟨w1.heap.size, 0, none⟩ 1 1 [.slice (some ⟨wr.heap.size, 0, none⟩) (nk + 3) (nk + 3)] rfl rfl HR2.out.2 (by simp [Value.oneCell']) p1 p2 HR2.out.1.bel.size ?_; intro rv' w2 hown2 hgrow2 _ hnb2)
        rw [one_app (rmF Y (ext G k wr.heap.size)) k (.slice (some ⟨wr.heap.size, 0, none⟩) (nk + 3) (nk + 3)) (by unfold rmF; rw [ext_at, HN.out])] at hown2
        have R3 := HR2.out.1.pushR hown2 hgrow2 hnb2
        obtain ⟨wd, hwd⟩ : ∃ wd, w2.alloc (.cells #[.slice (some ⟨wr.heap.size, 0, none⟩) nk (nk + 3)] 23) = wd := ⟨_, rfl⟩
        have hbd : Below w2.heap.size w2 wd := by rw [← hwd]; exact (Below.refl _ w2).alloc (Nat.le_refl _) _
        have hce2 : ∀ j y, [.slice (some ⟨wr.heap.size, 0, none⟩) nk (nk + 3)][j]? = some y → wd.cell? ((⟨w2.heap.size, 0, none⟩ : Addr).add j) = some y := by rw [← hwd]; exact scells_new w2 [.slice (some ⟨wr.heap.size, 0, none⟩) nk (nk + 3)] _
        have HR4 : Hid (RI w wd Y (k + 1) (k + 1) k (ext G k wr.heap.size) rv' u5 ∧ (∀ j y, [.slice (some ⟨wr.heap.size, 0, none⟩) nk (nk + 3)][j]? = some y → wd.cell? ((⟨w2.heap.size, 0, none⟩ : Addr).add j) = some y)) := ⟨R3.later hbd, hce2⟩
        have HWD : Hid (w2.alloc (.cells #[.slice (some ⟨wr.heap.size, 0, none⟩) nk (nk + 3)] 23) = wd) := hwd
        clear R3 hce2 hwd hbd hown2 hgrow2 hnb2 HR2
        go_wp2_with (at_builtin; rw [HWD.out]; refine wpList_append_own_at _ rfl _ _ 22 rfl w.heap.size 23 iL _ 1 24 Try.underlying22 hL1 hL2 hL3 hL4 rfl (by decide) _ _ _ rfl HR4.out.1.given ⟨w2.heap.size, 0, none⟩ 1 1 [.slice (some ⟨wr.heap.size, 0, none⟩) nk (nk + 3)] rfl rfl HR4.out.2 (by simp [Value.oneCell']) p1 p2 HR4.out.1.bel.size ?_; intro gv' w3 hown3 hgrow3 _ hnb3)
        rw [one_app (gvF Y (ext G k wr.heap.size)) k (.slice (some ⟨wr.heap.size, 0, none⟩) nk (nk + 3)) (by unfold gvF; rw [ext_at, HN.out])] at hown3
        exact ⟨⟨k + 1, _, rfl, hlt, HFS.out, HR4.out.1.pushG hown3 hgrow3 hnb3⟩, hme⟩
      have b0 : ((k : Int) == 0) = false := by simp; omega
      have HFS : Hid (u3 = .slice (fsY Y (k + 1)).p (fsY Y (k + 1)).n (fsY Y (k + 1)).c) := by
        show _ = _
        rw [hfv]
        unfold fsY
        rw [if_neg hk0, if_neg (by omega)]
      clear hfv
      go_upto_region 9 with (go_at_call 5; (with_reducible refine HR.mono ?_); rintro e w1 ⟨rfl, hr1, hb1⟩)
      have R1 := RI.row HRI.out hb1 hr1
      obtain ⟨wa, hwa⟩ : ∃ wa, w1.alloc (.cells #[.slice (some ⟨wr.heap.size, 0, none⟩) (nk + 3) (nk + 3)] 23) = wa := ⟨_, rfl⟩
      have hba : Below w1.heap.size w1 wa := by rw [← hwa]; exact (Below.refl _ w1).alloc (Nat.le_refl _) _
      have R2 := R1.later hba
      have hcel : ∀ j y, [.slice (some ⟨wr.heap.size, 0, none⟩) (nk + 3) (nk + 3)][j]? = some y → wa.cell? ((⟨w1.heap.size, 0, none⟩ : Addr).add j) = some y := by rw [← hwa]; exact scells_new w1 [.slice (some ⟨wr.heap.size, 0, none⟩) (nk + 3) (nk + 3)] _
      have HR2 : Hid (RI w wa Y (k + 1) k k (ext G k wr.heap.size) u4 u5 ∧ (∀ j y, [.slice (some ⟨wr.heap.size, 0, none⟩) (nk + 3) (nk + 3)][j]? = some y → wa.cell? ((⟨w1.heap.size, 0, none⟩ : Addr).add j) = some y)) := ⟨R2, hcel⟩
      have HWA : Hid (w1.alloc (.cells #[.slice (some ⟨wr.heap.size, 0, none⟩) (nk + 3) (nk + 3)] 23) = wa) := hwa
      clear R1 R2 hcel hwa hba hr1 hb1 HR HRI
      go_upto_region 10 with (at_builtin; rw [HWA.out]; refine wpList_append_own_at _ rfl _ _ 22 rfl w.heap.size 23 iL _ 1 24 Try.underlying22 hL1 hL2 hL3 hL4 rfl (by decide) _ _ _ rfl HR2.out.1.rooms ⟨w1.heap.size, 0, none⟩ 1 1 [.slice (some ⟨wr.heap.size, 0, none⟩) (nk + 3) (nk + 3)] rfl rfl HR2.out.2 (by simp [Value.oneCell']) p1 p2 HR2.out.1.bel.size ?_; intro rv' w2 hown2 hgrow2 _ hnb2)
      rw [one_app (rmF Y (ext G k wr.heap.size)) k (.slice (some ⟨wr.heap.size, 0, none⟩) (nk + 3) (nk + 3)) (by unfold rmF; rw [ext_at, HN.out])] at hown2
      have R3 := HR2.out.1.pushR hown2 hgrow2 hnb2
      obtain ⟨wd, hwd⟩ : ∃ wd, w2.alloc (.cells #[.slice (some ⟨wr.heap.size, 0, none⟩) nk (nk + 3)] 23) = wd := ⟨_, rfl⟩
      have hbd : Below w2.heap.size w2 wd := by rw [← hwd]; exact (Below.refl _ w2).alloc (Nat.le_refl _) _
      have hce2 : ∀ j y, [.slice (some ⟨wr.heap.size, 0, none⟩) nk (nk + 3)][j]? = some y → wd.cell? ((⟨w2.heap.size, 0, none⟩ : Addr).add j) = some y := by rw [← hwd]; exact scells_new w2 [.slice (some ⟨wr.heap.size, 0, none⟩) nk (nk + 3)] _
      have HR4 : Hid (RI w wd Y (k + 1) (k + 1) k (ext G k wr.heap.size) rv' u5 ∧ (∀ j y, [.slice (some ⟨wr.heap.size, 0, none⟩) nk (nk + 3)][j]? = some y → wd.cell? ((⟨w2.heap.size, 0, none⟩ : Addr).add j) = some y)) := ⟨R3.later hbd, hce2⟩
      have HWD : Hid (w2.alloc (.cells #[.slice (some ⟨wr.heap.size, 0, none⟩) nk (nk + 3)] 23) = wd) := hwd
      clear R3 hce2 hwd hbd hown2 hgrow2 hnb2 HR2
      go_wp2_with (at_builtin; rw [HWD.out]; refine wpList_append_own_at _ rfl _ _ 22 rfl w.heap.size 23 iL _ 1 24 Try.underlying22 hL1 hL2 hL3 hL4 rfl (by decide) _ _ _ rfl HR4.out.1.given ⟨w2.heap.size, 0, none⟩ 1 1 [.slice (some ⟨wr.heap.size, 0, none⟩) nk (nk + 3)] rfl rfl HR4.out.2 (by simp [Value.oneCell']) p1 p2 HR4.out.1.bel.size ?_; intro gv' w3 hown3 hgrow3 _ hnb3)
      rw [one_app (gvF Y (ext G k wr.heap.size)) k (.slice (some ⟨wr.heap.size, 0, none⟩) nk (nk + 3)) (by unfold gvF; rw [ext_at, HN.out])] at hown3
      exact ⟨⟨k + 1, _, rfl, hlt, HFS.out, HR4.out.1.pushG hown3 hgrow3 hnb3⟩, hme⟩
    have dlt : decide ((k : Int) < (m : Int)) = false := by simp; omega
    obtain rfl : k = m := by omega
    obtain ⟨gp, gc, hgv, hls⟩ := hri.lists
    subst hgv
    obtain ⟨F, hF⟩ : ∃ F, fsY Y k = F := ⟨_, rfl⟩
    rw [hF] at hfv
    subst hfv
    obtain ⟨T, hT⟩ : ∃ T, offL Y k = T := ⟨_, rfl⟩
    have hFn : F.n ≤ T := by rw [← hF, ← hT]; exact fs_le k
    have hFi : SIn w F.p F.n F.X := by rw [← hF]; exact fs_in HH.out
    rw [hT] at hn
    have hT' : offL (gvY Y G) k = T := by rw [← hT]; exact offL_congr (Y := gvY Y G) (Z := Y) (fun j => rfl) k
    have hC' : catL (gvY Y G) k = catL Y k := catL_congr (Y := gvY Y G) (Z := Y) (fun j => ⟨rfl, rfl⟩) k
    obtain ⟨nf, hnf⟩ : ∃ nf, F.n = nf := ⟨_, rfl⟩
    rw [hnf] at hFn hFi
    have n0 : (0 : Int) ≤ (nf : Int) := by omega
    have n1 : (nf : Int) ≤ (nf : Int) + 3 := by omega
    have n2 : nf ≤ nf + 3 := by omega
    have HFI : Hid (SIn w F.p nf F.X ∧ RI w wr Y k k k G u4 (.slice gp k gc) ∧ LsIn wr gp k (gvY Y G)) := ⟨hFi, hri, hls⟩
    have H1 := sroomy_any F.X F.p nf F.c wr (hFi.below hri.bel) (by omega)
    have HM : Hid (∀ W, LsIn W p k Y → Calls Try.prog 6 #[.slice p k cp] W fun e w' => ∃ v d, e = .returned v ∧ Own w' W.heap.size 51 6 v T (seF d) ∧ Stb klt 0 T (catL Y k) d ∧ Srt klt 0 T d ∧ Below W.heap.size W w') := fun W hW => by
      have := rmerge_any p k cp Y (by omega) (by omega) W hW
      rw [hT] at this
      exact this
    have HMG : Hid (∀ W, LsIn W gp k (gvY Y G) → Calls Try.prog 8 #[.slice gp k gc] W fun e w' => ∃ g d, e = .returned (.slice (some ⟨g, 0, none⟩) T T) ∧ SRow w' W.heap.size g T T d ∧ Stb klt 0 T (catL Y k) d ∧ Srt klt 0 T d ∧ Below W.heap.size W w') := fun W hW => by
      have := merge_any gp k gc (gvY Y G) (by omega) (by omega) W hW
      rw [hT', hC'] at this
      exact this
    rw [hnf]
    obtain ⟨gf, hgf⟩ : ∃ gf, wr.heap.size = gf := ⟨_, rfl⟩
    rw [hgf] at H1
    have HGF : Hid (wr.heap.size = gf) := hgf
    have HFN : Hid (F.n = nf ∧ offL Y k = T) := ⟨hnf, hT⟩
    clear hri hls hF hFi hT' hC' hgf hnf hT
    go_upto_region 13 with (go_at_call 5; (with_reducible refine H1.mono ?_); rintro e w1 ⟨rfl, hr1, hb1⟩)
    have hb1 : Below wr.heap.size wr w1 := by rw [HGF.out]; exact hb1
    have hbw1 : Below w.heap.size w w1 := HFI.out.2.1.bel.trans (hb1.mono HFI.out.2.1.bel.size)
    have H2 := HM.out w1 (HH.out.below hbw1)
    have HR1 : Hid (SRow w1 gf gf (nf + 3) (nf + 3) (rX F.X nf (nf + 3)) ∧ Below wr.heap.size wr w1 ∧ Below w.heap.size w w1) := ⟨hr1, hb1, hbw1⟩
    clear hr1 hb1 hbw1 H1
    go_upto_region 14 with (go_at_call 6; (with_reducible refine H2.mono ?_); rintro e w2 ⟨v0, d0, rfl, ho2, hs2, ht2, hb2⟩)
    obtain ⟨p0, c0, rfl⟩ := own_slice ho2
    have hbw2 : Below w.heap.size w w2 := HR1.out.2.2.trans (hb2.mono HR1.out.2.2.size)
    have H3 := rorder_any F.p nf F.c F.X (by omega) w2 (HFI.out.1.below hbw2)
    have HR2 : Hid (SIn w2 p0 T d0 ∧ Stb klt 0 T (catL Y k) d0 ∧ Srt klt 0 T d0 ∧ Below w1.heap.size w1 w2 ∧ Below w.heap.size w w2) := ⟨own_sin0 ho2, hs2, ht2, hb2, hbw2⟩
    clear ho2 hs2 ht2 hb2 hbw2 H2
    go_upto_region 15 with (go_at_call 7; (with_reducible refine H3.mono ?_); rintro e w3 ⟨vs, ds, rfl, ho3, hs3, ht3, hb3⟩)
    obtain ⟨ps, cs, rfl⟩ := own_slice ho3
    have hb13 : Below wr.heap.size wr w3 := (HR1.out.2.1.trans (HR2.out.2.2.2.1.mono HR1.out.2.1.size)).trans (hb3.mono (Nat.le_trans HR1.out.2.1.size HR2.out.2.2.2.1.size))
    have h23 : Below w1.heap.size w1 w3 := HR2.out.2.2.2.1.trans (hb3.mono HR2.out.2.2.2.1.size)
    have HR3 : Hid (SIn w3 ps nf ds ∧ Stb klt 0 nf F.X ds ∧ Srt klt 0 nf ds ∧ SIn w3 p0 T d0 ∧ RI w w3 Y k k k G u4 (.slice gp k gc) ∧ LsIn w3 gp k (gvY Y G) ∧ SRow w3 gf gf (nf + 3) (nf + 3) (rX F.X nf (nf + 3)) ∧ LsIn w3 p k Y ∧ SIn w3 F.p nf F.X ∧ Below w.heap.size w w3) := ⟨own_sin0 ho3, hs3, ht3, HR2.out.1.below hb3, HFI.out.2.1.later hb13, HFI.out.2.2.below hb13, SRow.later HR1.out.1 h23, HH.out.below (HR2.out.2.2.2.2.trans (hb3.mono HR2.out.2.2.2.2.size)), HFI.out.1.below (HR2.out.2.2.2.2.trans (hb3.mono HR2.out.2.2.2.2.size)), HR2.out.2.2.2.2.trans (hb3.mono HR2.out.2.2.2.2.size)⟩
    have HS0 : Hid (Stb klt 0 T (catL Y k) d0 ∧ Srt klt 0 T d0) := ⟨HR2.out.2.1, HR2.out.2.2.1⟩
    have H4 := HMG.out w3 HR3.out.2.2.2.2.2.1
    clear ho3 hs3 ht3 hb3 hb13 h23 HR2 HR1 H3 HM HFI
    go_upto_region 16 with (go_at_call 8; (with_reducible refine H4.mono ?_); rintro e w4 ⟨ga, da, rfl, ho4, hs4, ht4, hb4⟩)
    have hda : ∀ j, j < T → da j = d0 j := stable_one klt_ord hs4 ht4 HS0.out.1 HS0.out.2
    have HR4 : Hid (SRow w4 w3.heap.size ga T T d0 ∧ Below w3.heap.size w3 w4) := ⟨SRow.congr ho4 hda, hb4⟩
    have H5 := HMG.out w4 (HR3.out.2.2.2.2.2.1.below hb4)
    clear ho4 hs4 ht4 hb4 hda H4
    go_upto_region 17 with (go_at_call 8; (with_reducible refine H5.mono ?_); rintro e w5 ⟨gb, db, rfl, ho5, hs5, ht5, hb5⟩)
    have hdb : ∀ j, j < T → db j = d0 j := stable_one klt_ord hs5 ht5 HS0.out.1 HS0.out.2
    have h35 : Below w3.heap.size w3 w5 := HR4.out.2.trans (hb5.mono HR4.out.2.size)
    have HR5 : Hid (SRow w5 w4.heap.size gb T T d0 ∧ Below w4.heap.size w4 w5 ∧ Below w3.heap.size w3 w5) := ⟨SRow.congr ho5 hdb, hb5, h35⟩
    have H6 := order_any (some ⟨gf, 0, none⟩) nf (nf + 3) F.X (by omega) w5 ((room_sin HR3.out.2.2.2.2.2.2.1).below h35)
    clear ho5 hs5 ht5 hb5 hdb h35 H5
    go_upto_region 18 with (go_at_call 9; (with_reducible refine H6.mono ?_); rintro e w6 ⟨go, dd, rfl, ho6, hs6, ht6, hb6⟩)
    have hdo : ∀ j, j < nf → dd j = ds j := stable_one klt_ord hs6 ht6 HR3.out.2.1 HR3.out.2.2.1
    have h36 : Below w3.heap.size w3 w6 := HR5.out.2.2.trans (hb6.mono HR5.out.2.2.size)
    have h46 : Below w4.heap.size w4 w6 := HR5.out.2.1.trans (hb6.mono HR5.out.2.1.size)
    have HR6 : Hid (SRow w6 w5.heap.size go nf nf ds ∧ SRow w6 w4.heap.size gb T T d0 ∧ SRow w6 w3.heap.size ga T T d0 ∧ Below w3.heap.size w3 w6) := ⟨SRow.congr ho6 hdo, SRow.later HR5.out.1 hb6, SRow.later HR4.out.1 h46, h36⟩
    have HSZ : Hid (w3.heap.size ≤ ga ∧ ga < w4.heap.size ∧ w4.heap.size ≤ gb ∧ gb < w5.heap.size ∧ w5.heap.size ≤ go ∧ go < w6.heap.size) := ⟨HR4.out.1.lt.1, HR4.out.1.lt.2, HR5.out.1.lt.1, HR5.out.1.lt.2, (SRow.lt ho6).1, (SRow.lt ho6).2⟩
    have S1 : ∀ W, Below w6.heap.size w6 W → Hid (Calls Try.prog 10 #[.slice (some ⟨ga, 0, none⟩) T T, .slice p0 T c0] W fun e w9 => e = .returned (.bool true) ∧ Below W.heap.size W w9) := fun W hb => sEvents_yes T d0 _ _ _ _ (by omega) W ((own_sin0 HR6.out.2.2.1).below hb) ((HR3.out.2.2.2.1.below HR6.out.2.2.2).below hb)
    have S2 : ∀ W, Below w6.heap.size w6 W → Hid (Calls Try.prog 10 #[.slice (some ⟨gb, 0, none⟩) T T, .slice p0 T c0] W fun e w9 => e = .returned (.bool true) ∧ Below W.heap.size W w9) := fun W hb => sEvents_yes T d0 _ _ _ _ (by omega) W ((own_sin0 HR6.out.2.1).below hb) ((HR3.out.2.2.2.1.below HR6.out.2.2.2).below hb)
    have S3 : ∀ W, Below w6.heap.size w6 W → Hid (Calls Try.prog 10 #[.slice (some ⟨go, 0, none⟩) nf nf, .slice ps nf cs] W fun e w9 => e = .returned (.bool true) ∧ Below W.heap.size W w9) := fun W hb => sEvents_yes nf ds _ _ _ _ (by omega) W ((own_sin0 HR6.out.1).below hb) ((HR3.out.1.below HR6.out.2.2.2).below hb)
    clear ho6 hs6 ht6 hb6 hdo h36 h46 H6 HR4 HR5
    go_upto_region 20 with (first | (go_at_call 10; (with_reducible refine (S1 w6 (Below.refl _ _)).out.mono ?_); rintro e w7 ⟨rfl, hb7⟩) | (go_at_call 10; (with_reducible refine (S2 w7 hb7).out.mono ?_); rintro e w8 ⟨rfl, hb8'⟩; have hb8 : Below w6.heap.size w6 w8 := hb7.trans (hb8'.mono hb7.size)) | (go_at_call 10; (with_reducible refine (S3 w8 hb8).out.mono ?_); rintro e w9 ⟨rfl, hb9'⟩; have hb9 : Below w6.heap.size w6 w9 := hb8.trans (hb9'.mono hb8.size)))
    have HB9 : Hid (Below w6.heap.size w6 w9) := hb9
    clear S1 S2 S3 hb7 hb8 hb8' hb9 hb9'
    have K1 : ∀ W, Below w6.heap.size w6 W → Hid (Calls Try.prog 11 #[.slice (some ⟨gf, 0, none⟩) nf (nf + 3)] W fun e w' => ∃ q, e = .returned (.bool q) ∧ (q = true ↔ Rsg nf F.X) ∧ Below W.heap.size W w') := fun W hb => rising_any _ nf _ F.X (by omega) W ((room_sin HR3.out.2.2.2.2.2.2.1).below (HR6.out.2.2.2.trans (hb.mono HR6.out.2.2.2.size)))
    have K2 : ∀ W, Below w6.heap.size w6 W → Hid (Calls Try.prog 12 #[.slice F.p nf F.c] W fun e w' => ∃ q, e = .returned (.bool q) ∧ (q = true ↔ Rsg nf F.X) ∧ Below W.heap.size W w') := fun W hb => rrising_any _ nf _ F.X (by omega) W (HR3.out.2.2.2.2.2.2.2.2.1.below (HR6.out.2.2.2.trans (hb.mono HR6.out.2.2.2.size)))
    have K3 : ∀ W, Below w6.heap.size w6 W → Hid (Calls Try.prog 11 #[.slice (some ⟨ga, 0, none⟩) T T] W fun e w' => ∃ q, e = .returned (.bool q) ∧ (q = true ↔ Rsg T d0) ∧ Below W.heap.size W w') := fun W hb => rising_any _ T _ d0 (by omega) W ((own_sin0 HR6.out.2.2.1).below hb)
    have K4 : ∀ W, Below w6.heap.size w6 W → Hid (Calls Try.prog 12 #[.slice p0 T c0] W fun e w' => ∃ q, e = .returned (.bool q) ∧ (q = true ↔ Rsg T d0) ∧ Below W.heap.size W w') := fun W hb => rrising_any _ T _ d0 (by omega) W ((HR3.out.2.2.2.1.below HR6.out.2.2.2).below hb)
    go_upto_region 22 with (first | (go_at_call 11; (with_reducible refine (K1 w9 HB9.out).out.mono ?_); rintro e w10 ⟨q1, rfl, hq1, hb10'⟩; have HB10 : Hid (Below w6.heap.size w6 w10 ∧ (q1 = true ↔ Rsg nf F.X)) := ⟨HB9.out.trans (hb10'.mono HB9.out.size), hq1⟩; clear hb10' hq1) | (go_at_call 12; (with_reducible refine (K2 w10 HB10.out.1).out.mono ?_); rintro e w11 ⟨q2, rfl, hq2, hb11'⟩; have hqq : q2 = q1 := bool_iff hq2 HB10.out.2; subst q2; have HB11 : Hid (Below w6.heap.size w6 w11) := HB10.out.1.trans (hb11'.mono HB10.out.1.size); clear hb11' hq2; have hbn : (q1 != q1) = false := by simp) | (go_at_call 11; (with_reducible refine (K3 w11 HB11.out).out.mono ?_); rintro e w12 ⟨q3, rfl, hq3, hb12'⟩; have HB12 : Hid (Below w6.heap.size w6 w12 ∧ (q3 = true ↔ Rsg T d0)) := ⟨HB11.out.trans (hb12'.mono HB11.out.size), hq3⟩; clear hb12' hq3) | (go_at_call 12; (with_reducible refine (K4 w12 HB12.out.1).out.mono ?_); rintro e w13 ⟨q4, rfl, hq4, hb13'⟩; have hqq : q4 = q3 := bool_iff hq4 HB12.out.2; subst q4; have HB13 : Hid (Below w6.heap.size w6 w13) := HB12.out.1.trans (hb13'.mono HB12.out.1.size); clear hb13' hq4; have hbn2 : (q3 != q3) = false := by simp))
    have h3d : Below w3.heap.size w3 w13 := HR6.out.2.2.2.trans (HB13.out.mono HR6.out.2.2.2.size)
    have H14 := order_any (some ⟨gf, 0, none⟩) nf (nf + 3) F.X (by omega) w13 ((room_sin HR3.out.2.2.2.2.2.2.1).below h3d)
    clear h3d K1 K2 K3 K4 hbn hbn2
    go_upto_region 23 with (go_at_call 9; (with_reducible refine H14.mono ?_); rintro e w14 ⟨gg, dg, rfl, ho14, hs14, ht14, hb14⟩)
    have hdg : ∀ j, j < nf → dg j = ds j := stable_one klt_ord hs14 ht14 HR3.out.2.1 HR3.out.2.2.1
    have HR14 : Hid (SRow w14 w13.heap.size gg nf nf ds ∧ Below w13.heap.size w13 w14) := ⟨SRow.congr ho14 hdg, hb14⟩
    have H15 : Calls Try.prog 8 #[.slice none 0 0] w14 fun e w' => ∃ g d, e = .returned (.slice (some ⟨g, 0, none⟩) 0 0) ∧ SRow w' w14.heap.size g 0 0 d ∧ Stb klt 0 0 (catL Y 0) d ∧ Srt klt 0 0 d ∧ Below w14.heap.size w14 w' := merge_any none 0 0 Y (Nat.zero_le _) (Nat.zero_le _) w14 ⟨.inl rfl, fun j hj => absurd hj (Nat.not_lt_zero _)⟩
    clear ho14 hs14 ht14 hb14 hdg H14
    go_upto_region 24 with (go_at_call 8; (with_reducible refine H15.mono ?_); rintro e w15 ⟨gn, dn, rfl, ho15, _, _, hb15⟩)
    have h6f : Below w6.heap.size w6 w15 := HB13.out.trans ((HR14.out.2.trans (hb15.mono HR14.out.2.size)).mono HB13.out.size)
    have h3f : Below w3.heap.size w3 w15 := HR6.out.2.2.2.trans (h6f.mono HR6.out.2.2.2.size)
    have HR15 : Hid (SRow w15 w14.heap.size gn 0 0 dn ∧ SRow w15 w13.heap.size gg nf nf ds ∧ Below w6.heap.size w6 w15 ∧ Below w3.heap.size w3 w15 ∧ w6.heap.size ≤ w13.heap.size ∧ gg < w14.heap.size) := ⟨ho15, SRow.later HR14.out.1 hb15, h6f, h3f, HB13.out.size, HR14.out.1.lt.2⟩
    have S4 := sEvents_yes nf ds (some ⟨gg, 0, none⟩) ps nf cs (by omega) w15 (own_sin0 HR15.out.2.1) (HR3.out.1.below h3f)
    have HAP : ∀ W, Below w15.heap.size w15 W → Hid (Calls Try.prog 13 #[.slice (some ⟨W.heap.size, 0, none⟩) 5 5] (W.alloc (.cells #[.slice (some ⟨ga, 0, none⟩) T T, .slice (some ⟨go, 0, none⟩) nf nf, .slice (some ⟨gb, 0, none⟩) T T, .slice (some ⟨gg, 0, none⟩) nf nf, .slice (some ⟨gn, 0, none⟩) 0 0] 23)) fun e w' => e = .returned (.bool true) ∧ Below w3.heap.size W w') := fun W hb => by
      have z := HSZ.out
      have y := HR15.out
      have hz1 := y.2.2.1.size
      have hz2 := y.2.2.2.1.size
      have hz3 := hb.size
      have l1 := y.2.1.lt
      have l2 := y.1.lt
      have h6 : Below w6.heap.size w6 W := y.2.2.1.trans (hb.mono hz1)
      exact five_apart (SRow.later HR6.out.2.2.1 h6) (SRow.later HR6.out.1 h6) (SRow.later HR6.out.2.1 h6) (SRow.later y.2.1 hb) (SRow.later y.1 hb) z.1 (by omega) (by omega) (by omega) (by omega) hn (by omega) (by omega)
    clear ho15 hb15 h6f h3f H15 HR14 HB13
    go_wp2_with (first | (go_at_call 10; (with_reducible refine S4.mono ?_); rintro e w16 ⟨rfl, hb16⟩; have HB16 : Hid (Below w15.heap.size w15 w16) := hb16; clear hb16) | (go_at_call 13; (with_reducible refine (HAP w16 HB16.out).out.mono ?_); rintro e w18 ⟨rfl, hb18⟩))
    have h318 : Below w3.heap.size w3 w18 := (HR15.out.2.2.2.1.trans (HB16.out.mono HR15.out.2.2.2.1.size)).trans hb18
    have hR18 := HR3.out.2.2.2.2.1.later h318
    obtain ⟨rp, rc, hrv⟩ := own_slice hR18.rooms
    subst hrv
    have H18 : Hid (RI w w18 Y k k k G (.slice rp k rc) (.slice gp k gc) ∧ SRow w18 gf gf (nf + 3) (nf + 3) (rX F.X nf (nf + 3)) ∧ LsIn w18 p k Y ∧ SIn w18 F.p nf F.X) := ⟨hR18, SRow.later HR3.out.2.2.2.2.2.2.1 h318, HR3.out.2.2.2.2.2.2.2.1.below h318, HR3.out.2.2.2.2.2.2.2.2.1.below h318⟩
    clear hb18 h318 hR18 HR15 HB16 HR6 HSZ HAP S4
    go_loopw [116] (fun x wr => ∃ j : Nat, x = .int .i64 (j : Int) ∧ j ≤ k ∧ Below w18.heap.size w18 wr) (fun x _ => k - (intOf x).toNat)
    case atStart => exact ⟨0, rfl, Nat.zero_le _, Below.refl _ _⟩
    case round =>
      obtain ⟨j, rfl, hj, hb⟩ := hrel
      have R := H18.out.1.later hb
      by_cases hlt : j < k
      case pos =>
        have dlt : decide ((j : Int) < (k : Int)) = true := by simp; omega
        have i0 : (0 : Int) ≤ (j : Int) := by omega
        have i1 : (j : Int) < (k : Int) := by omega
        have ei : IntKind.i64.wrap ((j : Int) + 1) = (j : Int) + 1 := by rw [IntKind.wrap_i64]; omega
        have hme := meas hlt
        have hl := H18.out.2.2.1.below hb
        rcases hl.1 with hz | ⟨b, o, hp, hlb, hc⟩
        · omega
        have e0 := hc j hlt
        have hnk := n_le (Y := Y) hlt
        have hTT := HFN.out.2
        obtain ⟨rg, hrp⟩ : ∃ rg, rp = some ⟨rg, 0, none⟩ := by
          rcases R.rooms.form with ⟨h1, h2⟩ | ⟨g, c', h1, h2, h3⟩
          · omega
          · injection h1 with e1 e2 e3
            exact ⟨g, e1⟩
        have e1 : wr.cell? ⟨rg, j, none⟩ = some (.slice (some ⟨G j, 0, none⟩) ((Y j).n + 3) ((Y j).n + 3)) := by
          have := R.rooms
          rw [hrp] at this
          exact Own.cell this (j := j) (by omega)
        have HU := suntouched_any (Y j).X (Y j).p (Y j).n (Y j).c w.heap.size (G j) wr (hl.2 j hlt) (by omega) (R.rows j hlt)
        have HB : Hid (Below w18.heap.size w18 wr) := hb
        generalize (Y j).n = nj at e0 e1 HU
        rw [hp, hrp]
        clear hl hc hlb hp hrp hb R hnk hTT
        go_wp2_with (go_at_call 14; (with_reducible refine HU.mono ?_); rintro e w9 ⟨rfl, hb9⟩)
        exact ⟨⟨j + 1, rfl, hlt, HB.out.trans (hb9.mono HB.out.size)⟩, hme⟩
      have dlt : decide ((j : Int) < (k : Int)) = false := by simp; omega
      obtain rfl : j = k := by omega
      have HU := suntouched_any F.X F.p nf F.c gf gf wr (H18.out.2.2.2.below hb) (by omega) (SRow.later H18.out.2.1 hb)
      have HB : Hid (Below w.heap.size w wr) := R.bel
      clear hb R
      go_wp2_with (go_at_call 14; (with_reducible refine HU.mono ?_); rintro e w9 ⟨rfl, hb9⟩)
      go_ret
      exact ⟨rfl, HB.out.trans (hb9.mono HB.out.size)⟩
end Go.Proofs.Ytjfefjlajgpkaaa
