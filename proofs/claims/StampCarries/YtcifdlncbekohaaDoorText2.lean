import Derived.Test.YtcifdlncbekohaaDoorText1
namespace Go.Proofs.YtcifdlncbekohaaDoor
open Go.ChangeShapes Go.WideShapes Go.ChangeAt Go.RowKit

def txt (t q : Nat) (s d k v : Int) : List UInt8 := Lib.decDigits t ++ ([46] ++ (Lib.itoa s ++ ([46] ++ (Lib.decDigits q ++ ([62] ++ (Lib.itoa d ++ ([58] ++ (Lib.itoa k ++ ([61] ++ Lib.itoa v)))))))))

theorem Tryd.info5 : (Tryd.prog.info? 5).map (fun i => (i.zero, i.size, i.bytes)) = some (some (.int .u8 0), 1, 1) := by kernel_rfl

theorem news_one (W : World) (x : Value) (T : TypeId) (A : Nat) (hA : A = W.heap.size) : ∀ j u, [x][j]? = some u → (W.alloc (.cells #[x] T)).cell? ((⟨A, 0, none⟩ : Addr).add j) = some u := by
  subst hA
  exact World.news_of_block (cs := #[x]) (heap_alloc_new W _)

theorem box6 {w W : World} {v0 v1 v2 v3 v4 v5 : Value} {T : TypeId} (hb : Below (w.heap.size + 1) (w.alloc (.cells #[v0, v1, v2, v3, v4, v5] T)) W) :
    W.cell? ⟨w.heap.size, 0, none⟩ = some v0 ∧ W.cell? ⟨w.heap.size, 1, none⟩ = some v1 ∧ W.cell? ⟨w.heap.size, 2, none⟩ = some v2 ∧ W.cell? ⟨w.heap.size, 3, none⟩ = some v3 ∧ W.cell? ⟨w.heap.size, 4, none⟩ = some v4 ∧ W.cell? ⟨w.heap.size, 5, none⟩ = some v5 := by
  have h := (hb.block w.heap.size (by omega)).trans (heap_alloc_new w _)
  refine ⟨?_, ?_, ?_, ?_, ?_, ?_⟩ <;> (unfold World.cell?; simp only [h]; rfl)

set_option maxHeartbeats 2000000 in
theorem text_any (t q : Nat) (s d k v : Int) (ht : t < 18446744073709551616) (hq : q < 18446744073709551616) (hs : -9223372036854775808 ≤ s ∧ s ≤ 9223372036854775807) (hd : -9223372036854775808 ≤ d ∧ d ≤ 9223372036854775807) (hk : -9223372036854775808 ≤ k ∧ k ≤ 9223372036854775807) (hv : -9223372036854775808 ≤ v ∧ v ≤ 9223372036854775807) (w : World)
    (htab : Lib.TabIs Tryd.prog w "internal/strconv.uint64pow10" .u64 Lib.pow10Tab) :
    Calls Tryd.prog 13 #[.agg #[.int .u64 t, .int .i64 s, .int .u64 q, .int .i64 d, .int .i64 k, .int .i64 v]] w fun e w' => e = .returned (.string ⟨(txt t q s d k v).toArray⟩) ∧ Below w.heap.size w w' := by
  obtain ⟨i5, hi5, ha5, hb5, hc5⟩ := info_parts Tryd.info5
  have lt := dec_len t ht
  have lq := dec_len q hq
  have ls := itoa_len s hs.1 hs.2
  have ld := itoa_len d hd.1 hd.2
  have lk := itoa_len k hk.1 hk.2
  have lv := itoa_len v hv.1 hv.2
  have tab0 : Lib.TabBelow Tryd.prog (w.heap.size + 1) (w.alloc (.cells #[.int .u64 t, .int .i64 s, .int .u64 q, .int .i64 d, .int .i64 k, .int .i64 v] 36)) "internal/strconv.uint64pow10" .u64 Lib.pow10Tab := fun w' hb' =>
    Lib.tabBelow_of_tabIs htab w' (((Below.refl _ _).alloc (Nat.le_refl _) _).trans (hb'.mono (by omega)))
  have TAB : Hid (Lib.TabBelow Tryd.prog (w.heap.size + 1) (w.alloc (.cells #[.int .u64 t, .int .i64 s, .int .u64 q, .int .i64 d, .int .i64 k, .int .i64 v] 36)) "internal/strconv.uint64pow10" .u64 Lib.pow10Tab) := tab0
  clear tab0 htab
  have hb : Below (w.heap.size + 1) (w.alloc (.cells #[.int .u64 t, .int .i64 s, .int .u64 q, .int .i64 d, .int .i64 k, .int .i64 v] 36)) (w.alloc (.cells #[.int .u64 t, .int .i64 s, .int .u64 q, .int .i64 d, .int .i64 k, .int .i64 v] 36)) := Below.refl _ _
  have hsz : w.heap.size + 1 ≤ (w.alloc (.cells #[.int .u64 t, .int .i64 s, .int .u64 q, .int .i64 d, .int .i64 k, .int .i64 v] 36)).heap.size := by simp
  go_enter Tryd.func13, Tryd.ntmps13
  obtain ⟨c0, c1, c2, c3, c4, c5⟩ := box6 hb
  go_wp2_with fail
  refine (appU_any (w.heap.size + 1) _ t ht _ _ _ (World.ownsRow_nil _ _ _ _) hsz (by omega) (TAB.out.on hb)).mono ?_
  rintro e w0 ⟨x0, rfl, o0, b0⟩
  replace hb := hb.trans b0
  replace hsz : w.heap.size + 1 ≤ w0.heap.size := Nat.le_trans hsz b0.size
  clear c0 c1 c2 c3 c4 c5 b0
  go_wp2_with (at_builtin; refine wpList_append_lies _ rfl (.tmp 9) (.tmp 10) 23 rfl (w.heap.size + 1) 5 i5 (.int .u8 0) 1 1 Tryd.underlying23 hi5 ha5 hb5 hc5 rfl (by decide) x0 _ _ rfl (o0.alloc _) ⟨w0.heap.size, 0, none⟩ 1 1 [.int .u8 46] rfl rfl ?cA0 ?cB0 (by decide) ?cC0 ?cD0 ?cE0 (w0.heap.size + 1) ?cF0 ?_)
  case cA0 => exact news_one _ _ _ _ rfl
  case cB0 => intro u hu; simp at hu; subst hu; rfl
  case cC0 => unfold maxLen; omega
  case cD0 => omega
  case cE0 => simp; omega
  case cF0 => simp
  intro g0 cap0 y0 p0 q0 _ _
  have r0 : Below (w.heap.size + 1) w0 y0 := ((Below.refl _ _).alloc hsz _).grown q0 (by simp; omega) (fun k hk => (o0.lt k hk).1)
  replace hb := hb.trans r0
  replace hsz : w.heap.size + 1 ≤ y0.heap.size := Nat.le_trans hsz r0.size
  clear q0 r0 o0
  obtain ⟨c0, c1, c2, c3, c4, c5⟩ := box6 hb
  go_wp2_with fail
  refine (appI_any (w.heap.size + 1) _ s hs.1 hs.2 _ _ _ p0 hsz (by omega) (TAB.out.on hb)).mono ?_
  rintro e w1 ⟨x1, rfl, o1, b1, _⟩
  replace hb := hb.trans b1
  replace hsz : w.heap.size + 1 ≤ w1.heap.size := Nat.le_trans hsz b1.size
  clear c0 c1 c2 c3 c4 c5 b1
  go_wp2_with (at_builtin; refine wpList_append_lies _ rfl (.tmp 17) (.tmp 18) 23 rfl (w.heap.size + 1) 5 i5 (.int .u8 0) 1 1 Tryd.underlying23 hi5 ha5 hb5 hc5 rfl (by decide) x1 _ _ rfl (o1.alloc _) ⟨w1.heap.size, 0, none⟩ 1 1 [.int .u8 46] rfl rfl ?cA1 ?cB1 (by decide) ?cC1 ?cD1 ?cE1 (w1.heap.size + 1) ?cF1 ?_)
  case cA1 => exact news_one _ _ _ _ rfl
  case cB1 => intro u hu; simp at hu; subst hu; rfl
  case cC1 => unfold maxLen; omega
  case cD1 => omega
  case cE1 => simp; omega
  case cF1 => simp
  intro g1 cap1 y1 p1 q1 _ _
  have r1 : Below (w.heap.size + 1) w1 y1 := ((Below.refl _ _).alloc hsz _).grown q1 (by simp; omega) (fun k hk => (o1.lt k hk).1)
  replace hb := hb.trans r1
  replace hsz : w.heap.size + 1 ≤ y1.heap.size := Nat.le_trans hsz r1.size
  clear q1 r1 o1
  obtain ⟨c0, c1, c2, c3, c4, c5⟩ := box6 hb
  go_wp2_with fail
  refine (appU_any (w.heap.size + 1) _ q hq _ _ _ p1 hsz (by omega) (TAB.out.on hb)).mono ?_
  rintro e w2 ⟨x2, rfl, o2, b2⟩
  replace hb := hb.trans b2
  replace hsz : w.heap.size + 1 ≤ w2.heap.size := Nat.le_trans hsz b2.size
  clear c0 c1 c2 c3 c4 c5 b2
  go_wp2_with (at_builtin; refine wpList_append_lies _ rfl (.tmp 25) (.tmp 26) 23 rfl (w.heap.size + 1) 5 i5 (.int .u8 0) 1 1 Tryd.underlying23 hi5 ha5 hb5 hc5 rfl (by decide) x2 _ _ rfl (o2.alloc _) ⟨w2.heap.size, 0, none⟩ 1 1 [.int .u8 62] rfl rfl ?cA2 ?cB2 (by decide) ?cC2 ?cD2 ?cE2 (w2.heap.size + 1) ?cF2 ?_)
  case cA2 => exact news_one _ _ _ _ rfl
  case cB2 => intro u hu; simp at hu; subst hu; rfl
  case cC2 => unfold maxLen; omega
  case cD2 => omega
  case cE2 => simp; omega
  case cF2 => simp
  intro g2 cap2 y2 p2 q2 _ _
  have r2 : Below (w.heap.size + 1) w2 y2 := ((Below.refl _ _).alloc hsz _).grown q2 (by simp; omega) (fun k hk => (o2.lt k hk).1)
  replace hb := hb.trans r2
  replace hsz : w.heap.size + 1 ≤ y2.heap.size := Nat.le_trans hsz r2.size
  clear q2 r2 o2
  obtain ⟨c0, c1, c2, c3, c4, c5⟩ := box6 hb
  go_wp2_with fail
  refine (appI_any (w.heap.size + 1) _ d hd.1 hd.2 _ _ _ p2 hsz (by omega) (TAB.out.on hb)).mono ?_
  rintro e w3 ⟨x3, rfl, o3, b3, _⟩
  replace hb := hb.trans b3
  replace hsz : w.heap.size + 1 ≤ w3.heap.size := Nat.le_trans hsz b3.size
  clear c0 c1 c2 c3 c4 c5 b3
  go_wp2_with (at_builtin; refine wpList_append_lies _ rfl (.tmp 32) (.tmp 33) 23 rfl (w.heap.size + 1) 5 i5 (.int .u8 0) 1 1 Tryd.underlying23 hi5 ha5 hb5 hc5 rfl (by decide) x3 _ _ rfl (o3.alloc _) ⟨w3.heap.size, 0, none⟩ 1 1 [.int .u8 58] rfl rfl ?cA3 ?cB3 (by decide) ?cC3 ?cD3 ?cE3 (w3.heap.size + 1) ?cF3 ?_)
  case cA3 => exact news_one _ _ _ _ rfl
  case cB3 => intro u hu; simp at hu; subst hu; rfl
  case cC3 => unfold maxLen; omega
  case cD3 => omega
  case cE3 => simp; omega
  case cF3 => simp
  intro g3 cap3 y3 p3 q3 _ _
  have r3 : Below (w.heap.size + 1) w3 y3 := ((Below.refl _ _).alloc hsz _).grown q3 (by simp; omega) (fun k hk => (o3.lt k hk).1)
  replace hb := hb.trans r3
  replace hsz : w.heap.size + 1 ≤ y3.heap.size := Nat.le_trans hsz r3.size
  clear q3 r3 o3
  obtain ⟨c0, c1, c2, c3, c4, c5⟩ := box6 hb
  go_wp2_with fail
  refine (appI_any (w.heap.size + 1) _ k hk.1 hk.2 _ _ _ p3 hsz (by omega) (TAB.out.on hb)).mono ?_
  rintro e w4 ⟨x4, rfl, o4, b4, _⟩
  replace hb := hb.trans b4
  replace hsz : w.heap.size + 1 ≤ w4.heap.size := Nat.le_trans hsz b4.size
  clear c0 c1 c2 c3 c4 c5 b4
  go_wp2_with (at_builtin; refine wpList_append_lies _ rfl (.tmp 39) (.tmp 40) 23 rfl (w.heap.size + 1) 5 i5 (.int .u8 0) 1 1 Tryd.underlying23 hi5 ha5 hb5 hc5 rfl (by decide) x4 _ _ rfl (o4.alloc _) ⟨w4.heap.size, 0, none⟩ 1 1 [.int .u8 61] rfl rfl ?cA4 ?cB4 (by decide) ?cC4 ?cD4 ?cE4 (w4.heap.size + 1) ?cF4 ?_)
  case cA4 => exact news_one _ _ _ _ rfl
  case cB4 => intro u hu; simp at hu; subst hu; rfl
  case cC4 => unfold maxLen; omega
  case cD4 => omega
  case cE4 => simp; omega
  case cF4 => simp
  intro g4 cap4 y4 p4 q4 _ _
  have r4 : Below (w.heap.size + 1) w4 y4 := ((Below.refl _ _).alloc hsz _).grown q4 (by simp; omega) (fun k hk => (o4.lt k hk).1)
  replace hb := hb.trans r4
  replace hsz : w.heap.size + 1 ≤ y4.heap.size := Nat.le_trans hsz r4.size
  clear q4 r4 o4
  obtain ⟨c0, c1, c2, c3, c4, c5⟩ := box6 hb
  go_wp2_with fail
  refine (appI_any (w.heap.size + 1) _ v hv.1 hv.2 _ _ _ p4 hsz (by omega) (TAB.out.on hb)).mono ?_
  rintro e w5 ⟨x5, rfl, o5, b5, _⟩
  replace hb := hb.trans b5
  replace hsz : w.heap.size + 1 ≤ w5.heap.size := Nat.le_trans hsz b5.size
  clear c0 c1 c2 c3 c4 c5 b5
  obtain ⟨g, cap, l, hx5, ho, hl⟩ : ∃ (g cap : Nat) (l : List UInt8), x5 = .slice (some ⟨g, 0, none⟩) l.length cap ∧ w5.ownsRow (w.heap.size + 1) 5 1 (.slice (some ⟨g, 0, none⟩) l.length cap) l.length (Lib.byteCells l) ∧ l = txt t q s d k v := by
    obtain ⟨g, cap, hv5, hg1, hg2⟩ := o5.form (by omega)
    have e1 : (txt t q s d k v).length = (Lib.decDigits t).length + 1 + (Lib.itoa s).length + 1 + (Lib.decDigits q).length + 1 + (Lib.itoa d).length + 1 + (Lib.itoa k).length + 1 + (Lib.itoa v).length := by
      simp [txt]; omega
    refine ⟨g, cap, txt t q s d k v, by rw [hv5, e1], ?_, rfl⟩
    rw [hv5] at o5
    rw [e1]
    have e2 : Lib.byteCells (txt t q s d k v) = Lib.byteCells (Lib.decDigits t) ++ (.int .u8 46 :: (Lib.byteCells (Lib.itoa s) ++ (.int .u8 46 :: (Lib.byteCells (Lib.decDigits q) ++ (.int .u8 62 :: (Lib.byteCells (Lib.itoa d) ++ (.int .u8 58 :: (Lib.byteCells (Lib.itoa k) ++ (.int .u8 61 :: Lib.byteCells (Lib.itoa v)))))))))) := by
      simp [txt, Lib.byteCells]
    rw [e2]
    simpa using o5
  have HL : Hid (l = txt t q s d k v) := hl
  clear hl o5 p4
  rw [hx5]
  clear hx5
  have hconv : (convert 23 9 (.slice (some ⟨g, 0, none⟩) l.length cap)).run Tryd.prog w5 = .ok (.string ⟨l.toArray⟩) w5 :=
    run_convert_bytes_back (P := Tryd.prog) w5 23 9 5 ⟨g, 0, none⟩ cap l Tryd.underlying23 Tryd.underlying5 Tryd.underlying9 (by
      intro j hj
      have e : (⟨g, 0, none⟩ : Addr).add j = ⟨g, j, none⟩ := by
        unfold Addr.add
        by_cases hi : j = 0 <;> simp [hi]
      rw [e, ho.cellAt j (by omega)]
      simp [Lib.byteCells, hj])
  clear ho
  go_wp2_with fail
  go_ret
  rw [← HL.out]
  exact ⟨rfl, ((Below.refl _ _).alloc (Nat.le_refl _) _).trans (hb.mono (by omega))⟩
end Go.Proofs.YtcifdlncbekohaaDoor
