/- The law of parts: its walk. -/
import Derived.Test.YtlnlpljeflfgbaaGreatDoorPm
import Derived.Test.YtlnlpljeflfgbaaGreatDoorPl
import Derived.Test.YtlnlpljeflfgbaaGreatDoorPh
import Derived.Test.YtlnlpljeflfgbaaGreatDoorRu
import Derived.Test.YtlnlpljeflfgbaaGreatDoorVm
import Derived.Test.YtlnlpljeflfgbaaGreatDoorPx
import Derived.Test.YtlnlpljeflfgbaaGreatDoorRm
import Derived.Laws.AppendOwnNone
import Derived.Deep.AppendLies
namespace Go.Proofs.YtlnlpljeflfgbaaGreatDoor
open Go.RowKit

/-- The cells of j sevens. -/
def sevens (j : Nat) : List Value := (List.replicate j [Value.int .u8 1, .int .i64 7, .string ⟨#[]⟩, .slice none 0 0]).flatten
theorem sevens_next (j : Nat) : sevens (j + 1) = sevens j ++ [Value.int .u8 1, .int .i64 7, .string ⟨#[]⟩, .slice none 0 0] := by
  unfold sevens
  rw [List.replicate_succ', List.flatten_append]
  rfl
theorem sevens_length (j : Nat) : (sevens j).length = j * 4 := by
  unfold sevens
  rw [List.length_flatten, List.map_replicate, List.sum_replicate_nat]
  rfl
theorem info_term : (Tryz.prog.info? 24).map (fun i => (i.zero, i.size, i.bytes)) = some (some (.agg #[.int .u8 0, .int .i64 0, .string ⟨#[]⟩, .slice none 0 0]), 4, 56) := by kernel_rfl
theorem info_str : (Tryz.prog.info? 9).map (fun i => (i.zero, i.size, i.bytes)) = some (some (.string ⟨#[]⟩), 1, 16) := by kernel_rfl
/-- Two owned rows of different element types lie in different blocks. -/
theorem rows_apart {w : World} {base base' : Nat} {e e' : TypeId} {size size' : Nat} {v v' : Value} {n n' : Nat} {xs xs' : List Value} (h : w.ownsRow base e size v n xs) (h' : w.ownsRow base' e' size' v' n' xs') (hne : e ≠ e') :
    v.ownBlock = none ∨ v.ownBlock ≠ v'.ownBlock := by
  rcases h.2 with ⟨rfl, _⟩ | ⟨g, cap, cur, rfl, _, hg, _⟩
  · exact Or.inl rfl
  · right
    rcases h'.2 with ⟨rfl, _⟩ | ⟨g', cap', cur', rfl, _, hg', _⟩
    · simp [Value.ownBlock]
    · intro e
      simp only [Value.ownBlock, Option.some.injEq] at e
      subst e
      rw [hg] at hg'
      simp at hg'
      exact hne hg'.2

set_option maxRecDepth 100000 in
set_option maxHeartbeats 20000000 in
theorem parts_any (k n : Int) (s : ByteArray) (us : List Tm) (c0 c1 c2 c3 : Value) (w : World) (hA0 : IsTm w.heap.size w c0 c1 c2 c3 (.mk k n s us))
    (hgl0 : 0 < w.heap.size) (htab0 : Lib.TabIs Tryz.prog w "internal/strconv.uint64pow10" .u64 Lib.pow10Tab) :
    Calls Tryz.prog 3 #[.agg #[c0, c1, c2, c3]] w fun e w' => e = .returned (.bool true) ∧ Below w.heap.size w w' := by
  have hAA := hA0
  simp only [IsTm] at hAA
  obtain ⟨rfl, hk, rfl, hn, rfl, hs, a, cap, rfl, hl, hargs⟩ := hAA
  have hB0 : Below w.heap.size w (w.alloc (.cells #[.int .u8 k, .int .i64 n, .string s, .slice a us.length cap] 24)) := (Below.refl _ w).alloc (Nat.le_refl _) _
  have r1 : HasRow w.heap.size #[.int .u8 k, .int .i64 n, .string s, .slice a us.length cap] (w.alloc (.cells #[.int .u8 k, .int .i64 n, .string s, .slice a us.length cap] 24)) := World.alloc_heap_new w _
  go_enter Tryz.func3, Tryz.ntmps3
  go_wp2_with fail
  revert hB0 r1
  generalize (w.alloc (.cells #[.int .u8 k, .int .i64 n, .string s, .slice a us.length cap] 24)) = W0
  intro hB0 r1
  have HAW := Lib.hid (awake_any W0 (Nat.lt_of_lt_of_le hgl0 hB0.size) (tab_below hB0 hgl0 htab0))
  clear htab0
  refine HAW.out.mono ?_
  clear HAW
  rintro e W1 ⟨rfl, hb1⟩
  have r1 := r1.grow hb1
  have hB1 := hB0.trans (hb1.mono hB0.size)
  clear hb1 hB0
  have x0 := cells_at r1 0 _ rfl
  have x1 := cells_at r1 1 _ rfl
  have x2 := cells_at r1 2 _ rfl
  have x3 := cells_at r1 3 _ rfl
  go_wp2_with fail
  have hAl : Below W1.heap.size W1 (W1.alloc (.cells #[.int .u8 k, .int .i64 n, .string s, .slice a us.length cap] 24)) := (Below.refl _ _).alloc (Nat.le_refl _) _
  have hBl := hB1.trans (hAl.mono hB1.size)
  have hS := small_sl [.mk k n s us] _ _ (sl_one (World.alloc_heap_new W1 _) ((hA0.below hBl).mono hBl.size))
  have r1 := r1.grow hAl
  clear hAl hB1 x0 x1 x2 x3
  by_cases hsm : sizeL [.mk k n s us] 0 300 ≤ 300
  case neg =>
    rw [decide_eq_false hsm] at hS
    refine hS.mono ?_
    clear hS
    rintro e W2 ⟨rfl, hb2⟩
    have hBf := hBl.trans (hb2.mono hBl.size)
    go_wp2_with fail
    go_ret
    exact ⟨rfl, hBf⟩
  have hcnt := small_count hsm
  simp only [Tm.countL, Tm.count, Nat.add_zero] at hcnt
  rw [decide_eq_true hsm] at hS
  refine hS.mono ?_
  clear hS hsm
  rintro e W2 ⟨rfl, hb2⟩
  have r1 := r1.grow hb2
  have hB2 := hBl.trans (hb2.mono hBl.size)
  clear hb2 hBl
  have x0 := cells_at r1 0 _ rfl
  have x1 := cells_at r1 1 _ rfl
  have x2 := cells_at r1 2 _ rfl
  have x3 := cells_at r1 3 _ rfl
  go_wp2_with fail
  have htf := r1.lt
  have hfb : W2.heap.size + 1 ≤ (W2.alloc (.cells #[.int .u8 k, .int .i64 n, .string s, .slice none 0 0] 24)).heap.size := by simp
  have hAl : Below W2.heap.size W2 (W2.alloc (.cells #[.int .u8 k, .int .i64 n, .string s, .slice none 0 0] 24)) := (Below.refl _ _).alloc (Nat.le_refl _) _
  have r1 := r1.grow hAl
  have rF : HasRow W2.heap.size #[.int .u8 k, .int .i64 n, .string s, .slice none 0 0] (W2.alloc (.cells #[.int .u8 k, .int .i64 n, .string s, .slice none 0 0] 24)) := World.alloc_heap_new W2 _
  have hB3 := hB2.trans (hAl.mono hB2.size)
  clear hAl hB2 x0 x1 x2 x3
  revert hfb r1 rF hB3
  generalize (W2.alloc (.cells #[.int .u8 k, .int .i64 n, .string s, .slice none 0 0] 24)) = W3
  obtain ⟨fb, hfbe⟩ : ∃ fb, W2.heap.size = fb := ⟨_, rfl⟩
  rw [hfbe] at htf ⊢
  clear hfbe
  intro hfb r1 rF hB3
  have hdc := Tm.depthL_le_countL us
  obtain ⟨i1s, si0, si1, si2, si3⟩ := info_parts info_str
  have HIS := Lib.hid (And.intro si0 (And.intro si1 (And.intro si2 si3)))
  obtain ⟨i1t, ti0, ti1, ti2, ti3⟩ := info_parts info_term
  have HIT := Lib.hid (And.intro ti0 (And.intro ti1 (And.intro ti2 ti3)))
  clear si0 si1 si2 si3 ti0 ti1 ti2 ti3
  have HARG := Lib.hid hargs
  clear hargs
  unfold maxLen at hs hl
  have hl3 : us.length ≤ 300 := by have := Tm.length_le_count us; omega
  go_loopw [3, 4, 5, 7] (fun y3 y4 y5 y7 wr => ∃ (j : Nat) (L : List (List UInt8)) (vF : Value), j ≤ us.length ∧ y7 = .int .i64 j ∧ y3 = .bool ((us.take j).all Tm.validB) ∧ y4 = .int .i64 (Tm.depthL (us.take j)) ∧ NamesTo us j L ∧ L.length ≤ Tm.countL (us.take j) ∧
      wr.ownsRow (fb + 1) 9 1 y5 L.length (L.map encStr) ∧ HasRow fb #[.int .u8 k, .int .i64 n, .string s, vF] wr ∧ wr.ownsRow (fb + 1) 24 4 vF j (sevens j) ∧ fb + 1 ≤ wr.heap.size ∧
      HasRow w.heap.size #[.int .u8 k, .int .i64 n, .string s, .slice a us.length cap] wr ∧ Below w.heap.size w wr) (fun _ _ _ y7 _ => us.length - (intOf y7).toNat)
  case atStart => exact ⟨0, [], .slice none 0 0, Nat.zero_le _, by go_num, rfl, rfl, NamesTo.start us, by simp [Tm.countL], World.ownsRow_nil _ _ _ _, rF, World.ownsRow_nil _ _ _ _, hfb, r1, hB3⟩
  case round =>
    clear hfb r1 rF hB3
    obtain ⟨j, L, vF, hj, rfl, rfl, rfl, hN, hLc, hO5, rF, hOF, hfb, r1, hBr⟩ := hrel
    have x0 := cells_at r1 0 _ rfl
    have x1 := cells_at r1 1 _ rfl
    have x2 := cells_at r1 2 _ rfl
    have x3 := cells_at r1 3 _ rfl
    have i1 : (0 : Int) ≤ (j : Int) := by omega
    by_cases hlt : j < us.length
    case neg =>
      have hjn : j = us.length := by omega
      clear hlt
      subst hjn
      simp only [List.take_length] at hN hLc ⊢
      have iT := (hA0.below hBr).mono hBr.size
      have iF := flat_holds (k := k) (n := n) (s := s) (m := us.length) rfl hk hn (by unfold maxLen; omega) (by unfold maxLen; omega) hOF
      have hdT : (Tm.mk k n s us).depth < 4611686018427387900 := by simp only [Tm.depth]; omega
      have hcT : ((Tm.mk k n s us).nodes 1).length ≤ 1000000000 := by rw [nodes_count]; simp only [Tm.count]; omega
      have hDe : ((Tm.mk k n s us).depth : Int) = (Tm.depthL us : Int) + 1 := by simp only [Tm.depth]; omega
      have CD := fun wx (h : Below wr.heap.size wr wx) => depth_any (.mk k n s us) _ _ _ _ wx ((iT.below h).mono h.size) hdT
      have CA := fun wx (h : Below wr.heap.size wr wx) => valid_any (.mk k n s us) _ _ _ _ wx ((iT.below h).mono h.size) hdT
      have CF := fun wx (h : Below wr.heap.size wr wx) => valid_any (.mk k n s (List.replicate us.length (tNum 7))) _ _ _ _ wx ((iF.below h).mono h.size) (flat_depth k n s us.length)
      have CL := fun wx (h : Below wr.heap.size wr wx) => value_any (.mk k n s us) _ _ _ _ wx ((iT.below h).mono h.size) hdT
      have CG := fun wx (h : Below wr.heap.size wr wx) => ground_any (.mk k n s us) _ _ _ _ wx ((iT.below h).mono h.size) hdT
      have CV := fun wx (h : Below wr.heap.size wr wx) => vars_any (.mk k n s us) _ _ _ _ wx ((iT.below h).mono h.size) hdT hcT
      have hVP := valid_parts k n s us
      have hVG := fun h => value_ground (t := .mk k n s us) h
      have hGV : ∀ ss, SVars (.mk k n s us) ss → ((ss.length : Int) == 0) = (Tm.mk k n s us).groundB := fun ss h => by rw [ground_vars h, Bool.eq_iff_iff, beq_iff_eq, decide_eq_true_eq]; omega
      obtain ⟨P, hP⟩ : ∃ b, us.all Tm.validB = b := ⟨_, rfl⟩
      obtain ⟨VF, hVF⟩ : ∃ b, (Tm.mk k n s (List.replicate us.length (tNum 7))).validB = b := ⟨_, rfl⟩
      obtain ⟨VA, hVA⟩ : ∃ b, (Tm.mk k n s us).validB = b := ⟨_, rfl⟩
      obtain ⟨V, hV⟩ : ∃ b, (Tm.mk k n s us).valueB = b := ⟨_, rfl⟩
      obtain ⟨G, hG⟩ : ∃ b, (Tm.mk k n s us).groundB = b := ⟨_, rfl⟩
      rw [hP, hVF, hVA] at hVP
      rw [hV, hVA, hG] at hVG
      rw [hDe] at CD
      simp only [hVA] at CA
      simp only [hVF] at CF
      simp only [hV] at CL
      simp only [hG] at CG
      simp only [hG] at hGV
      rw [hP]
      have hdl : (Tm.depthL us : Int) ≤ 300 := by omega
      have hdl0 : (0 : Int) ≤ (Tm.depthL us : Int) := by omega
      have hw : IntKind.i64.wrap ((Tm.depthL us : Int) + 1) = (Tm.depthL us : Int) + 1 := IntWalk.i64_in _ (by omega)
      clear hP hVF hVA hV hG hDe
      have HA0 := Lib.hid hA0
      have HN := Lib.hid hN
      have HO5 := Lib.hid hO5
      have HBR := Lib.hid hBr
      have HGV := Lib.hid hGV
      have HCD := Lib.hid CD
      have HCA := Lib.hid CA
      have HCF := Lib.hid CF
      have HCL := Lib.hid CL
      have HCG := Lib.hid CG
      have HCV := Lib.hid CV
      have HiT := Lib.hid iT
      have HhdT := Lib.hid hdT
      have HhcT := Lib.hid hcT
      have Hhdc := Lib.hid hdc
      have Hhcnt := Lib.hid hcnt
      have HhLc := Lib.hid hLc
      clear hA0 hN hO5 hBr hGV hOF iF CD CA CF CL CG CV iT hdT hcT hdc hcnt hLc
      go_wp2_with fail
      rename_i K hK
      clear x0 x1 x2 x3
      have join : ∀ (T : Array Value) (wx : World), T.size = 151 → T.getD 98 undef = .bool false → T.getD 1 undef = .pointer (some ⟨w.heap.size, 0, none⟩) → T.getD 5 undef = u5 → Below wr.heap.size wr wx → K ⟨T, []⟩ wx := by
        intro T wx hT h98 h1 h5 hBx
        have hE := slots_all T 151 hT
        obtain ⟨f, hf⟩ : ∃ f : Nat → Value, (fun i => T.getD i undef) = f := ⟨_, rfl⟩
        rw [hf] at hE
        have f98 : f 98 = .bool false := by rw [← hf]; exact h98
        have f1 : f 1 = .pointer (some ⟨w.heap.size, 0, none⟩) := by rw [← hf]; exact h1
        have f5 : f 5 = u5 := by rw [← hf]; exact h5
        clear hT h98 h1 h5 hf
        subst hE
        refine hK _ _ ?_
        clear hK
        simp only [List.range, List.range.loop, List.map, f98, f1, f5]
        clear f98 f1 f5
        have hO5x := own_grow HO5.out hBx
        have r1x := r1.grow hBx
        have hBw := HBR.out.trans (hBx.mono HBR.out.size)
        have hzx : fb + 1 ≤ wx.heap.size := by have := hBx.size; omega
        have hLb : L.length ≤ 300 := by have := HhLc.out; have := Hhdc.out; have := Hhcnt.out; omega
        have hnb : ∀ ss, SVars (.mk k n s us) ss → ss.length ≤ 300 := fun ss h => by
          have h1 := svars_len h
          rw [nodes_count] at h1
          simp only [Tm.count] at h1
          have := Hhcnt.out
          omega
        have x0 := cells_at r1x 0 _ rfl
        have x1 := cells_at r1x 1 _ rfl
        have x2 := cells_at r1x 2 _ rfl
        have x3 := cells_at r1x 3 _ rfl
        by_cases hk3 : k = 3
        · have HO5x := Lib.hid (hO5x.alloc (.cells #[.string s] 9))
          have HR1X := Lib.hid r1x
          have HBW := Lib.hid hBw
          subst hk3
          clear hO5x r1x hBw
          go_wp2_with (at_builtin; refine wpList_append_own _ rfl _ _ 27 rfl (fb + 1) 9 i1s (.string ⟨#[]⟩) 1 16 Tryz.underlying27 HIS.out.1 HIS.out.2.1 HIS.out.2.2.1 HIS.out.2.2.2 rfl (by decide) _ _ _ rfl HO5x.out ⟨wx.heap.size, 0, none⟩ 1 1 [.string s] rfl rfl ?b1 ?b2 ?b3 ?b4 ?b5 ?_)
          case b1 =>
            intro i u hj
            match i, hj with
            | 0, hj => simp at hj; subst hj; simp [Addr.add]
          case b2 => intro u hu; simp at hu; subst hu; rfl
          case b3 => unfold maxLen; omega
          case b4 => omega
          case b5 => rw [World.size_alloc]; omega
          intro v6 w6 hO6a hg6 hx0
          clear hx0
          have hob := HO5x.out.lt
          have r16 : HasRow w.heap.size #[.int .u8 3, .int .i64 n, .string s, .slice a us.length cap] w6 := (hg6.block w.heap.size (by rw [World.size_alloc]; have := HR1X.out.lt; omega) (fun e => by have := (hob _ e.symm).1; omega)).trans ((Below.heap_alloc _ _ _ HR1X.out.lt).trans HR1X.out)
          have hB6 := (HBW.out.alloc HBW.out.size _).grown hg6 (by rw [World.size_alloc]; have := HBW.out.size; omega) (fun k e => by have := (hob k e).1; omega)
          have hO6 : w6.ownsRow (fb + 1) 9 1 v6 (L ++ [s.data.toList]).length ((L ++ [s.data.toList]).map encStr) := by
            rw [List.length_append, List.map_append]
            exact hO6a
          clear x0 x1 x2 x3 HO5x HR1X HBW hg6 hob hO6a
          have x0 := cells_at r16 0 _ rfl
          have x1 := cells_at r16 1 _ rfl
          have x2 := cells_at r16 2 _ rfl
          have x3 := cells_at r16 3 _ rfl
          go_wp2_with fail
          refine (vars_any (.mk 3 n s us) _ _ _ _ w6 ((HA0.out.below hB6).mono hB6.size) HhdT.out HhcT.out).mono ?_
          rintro e wy ⟨vl, ss, rfl, hss, hol, hby⟩
          clear x0 x1 x2 x3 r16
          have hO5y := own_grow hO6 hby
          have hBy := hB6.trans (hby.mono hB6.size)
          have hsl := hnb ss hss
          have hLLl : (L ++ [s.data.toList]).length ≤ 301 := by rw [List.length_append]; simp; omega
          have hmem : ∀ x, x ∈ ss ↔ x ∈ L ++ [s.data.toList] := fun x => by rw [hss.2 x, names_all HN.out x, if_pos rfl]
          clear hO6 hB6 hby hnb
          obtain ⟨LL, hLLe⟩ : ∃ l, L ++ [s.data.toList] = l := ⟨_, rfl⟩
          rw [hLLe] at hO5y hmem hLLl
          have SV5 := owns_strv hO5y (by unfold maxLen; omega)
          have SVl := owns_strv hol (by unfold maxLen; omega)
          have hlen5 := toBa_length LL
          have hlenl := toBa_length ss
          have hb5n : (toBa LL).length ≤ 301 := by omega
          have hbln : (toBa ss).length ≤ 300 := by omega
          clear hLLe hO5y hol hlen5 hlenl hsl hLLl
          have HSV5 := Lib.hid SV5
          obtain ⟨a5, c5, rfl, hx1, hx2⟩ := SV5
          clear hx1 hx2
          obtain ⟨al, cl, rfl, hx3, hcl⟩ := SVl
          clear hx3
          have HCL := Lib.hid hcl
          have HSV := Lib.hid hss
          have HM := Lib.hid hmem
          clear hcl hss hmem
          go_wp2_with fail
          go_loopw [9] (fun i wr => ∃ q : Nat, q ≤ (toBa ss).length ∧ i = .int .i64 q ∧ Below wy.heap.size wy wr) (fun i _ => (toBa ss).length - (intOf i).toNat)
          case atStart => exact ⟨0, Nat.zero_le _, by go_num, Below.refl _ _⟩
          case round =>
            obtain ⟨q, hq, rfl, hBq⟩ := hrel
            have i1 : (0 : Int) ≤ (q : Int) := by omega
            by_cases hqn : q < (toBa ss).length
            · obtain ⟨bl, ofl, rfl, hblw, hcc⟩ := HCL.out (by intro e; rw [e] at hqn; simp at hqn)
              have hblt : bl < wr.heap.size := by have := hBq.size; omega
              obtain ⟨i0, hi0, he0⟩ := ba_mem (fun x hx => (HM.out x).1 hx) q hqn
              have k1 := (hBq.cell (p := ⟨bl, ofl + q, none⟩) hblw).trans (hcc q hqn)
              have hhas : ∀ wz, Below wy.heap.size wy wz → Calls Tryz.prog 12 #[.slice a5 (toBa LL).length c5, .string (toBa ss)[q]] wz fun e w' => e = .returned (.bool true) ∧ w' = wz := fun wz h => has_true (toBa LL) (toBa ss)[q] _ wz (HSV5.out.grow h) i0 hi0 he0
              have i2 : (q : Int) < ((toBa ss).length : Int) := by omega
              obtain ⟨A1, hA1⟩ : ∃ s, (toBa ss)[q] = s := ⟨_, rfl⟩
              by_cases hq0 : q = 0
              · rw [hA1] at k1 hhas
                have HHAS := Lib.hid hhas
                clear he0 hhas hA1
                have g0 : ¬ (0 : Int) < (q : Int) := by omega
                clear hq0
                go_wp2_with fail
                refine wp_region_grow_or (by kernel_rfl) (FU [.val (.int .i64 q), .val (.bool false), .val (.bool false), .val (undef), .val (undef), .val (undef), .val (undef), .val (undef), .val (undef), .val (undef), .val (undef), .val (undef), .val (undef), .val (.bool false), .val (.bool false), .val (.slice a5 (toBa LL).length c5), .val (.slice (some ⟨bl, ofl, none⟩) (toBa ss).length cl), .val (.int .i64 q), .val (.pointer (some ⟨bl, ofl + q, none⟩)), .val (.string A1), .val (.bool true), .val (.bool false), .val (.bool false)]) (FU_grow _) (by kernel_rfl) (steps_or ?_) ?_
                · refine ⟨?_, ?_, ?_, ?_, ?_, ?_, ?_, ?_, ?_, ?_, ?_, ?_, ?_, ?_, ?_, ?_, ?_, ?_, ?_, ?_, ?_, ?_, ?_, trivial⟩
                  · intro a7 wz hb hd hs7 ho hp
                    refine Or.inl ⟨rfl, ?_⟩
                    have h9 : a7.tmps.getD 9 undef = _ := (ho 9 (by kernel_rfl)).trans rfl
                    unfold Oper.wp
                    go_simp
                    exact Stepped.at rfl hd (Below.refl _ _) (FU_mk (.val (.int .i64 q)) rfl (by first | rfl | simp | (congr 1; omega) | (congr 1; exact decide_eq_false (by omega)) | (congr 1; exact decide_eq_true (by omega)) | trace_state))
                  · intro a7 wz hb hd hs7 ho hp
                    refine Or.inl ⟨rfl, ?_⟩
                    have h115 : a7.tmps.getD 115 undef = .int .i64 q := uval_at hp 0 115 (by kernel_rfl) rfl
                    unfold Oper.wp
                    go_simp
                    exact Stepped.at rfl hd (Below.refl _ _) (FU_mk (.val (.bool false)) rfl (by first | rfl | simp | (congr 1; omega) | (congr 1; exact decide_eq_false (by omega)) | (congr 1; exact decide_eq_true (by omega)) | trace_state))
                  · intro a7 wz hb hd hs7 ho hp
                    refine Or.inl ⟨rfl, ?_⟩
                    have h116 : a7.tmps.getD 116 undef = .bool false := uval_at hp 1 116 (by kernel_rfl) rfl
                    unfold Oper.wp
                    go_simp
                    exact Stepped.at rfl hd (Below.refl _ _) (FU_mk (.val (.bool false)) rfl (by first | rfl | simp | (congr 1; omega) | (congr 1; exact decide_eq_false (by omega)) | (congr 1; exact decide_eq_true (by omega)) | trace_state))
                  · intro a7 wz hb hd hs7 ho hp
                    exact Or.inr ⟨wanted_no rfl (yielded_at (k := 2) (d := 117) (by kernel_rfl) (uval_at hp 2 117 (by kernel_rfl) rfl)), fun _ _ => FU_mk (.val undef) rfl rfl⟩
                  · intro a7 wz hb hd hs7 ho hp
                    exact Or.inr ⟨wanted_no rfl (yielded_at (k := 2) (d := 117) (by kernel_rfl) (uval_at hp 2 117 (by kernel_rfl) rfl)), fun _ _ => FU_mk (.val undef) rfl rfl⟩
                  · intro a7 wz hb hd hs7 ho hp
                    exact Or.inr ⟨wanted_no rfl (yielded_at (k := 2) (d := 117) (by kernel_rfl) (uval_at hp 2 117 (by kernel_rfl) rfl)), fun _ _ => FU_mk (.val undef) rfl rfl⟩
                  · intro a7 wz hb hd hs7 ho hp
                    exact Or.inr ⟨wanted_no rfl (yielded_at (k := 2) (d := 117) (by kernel_rfl) (uval_at hp 2 117 (by kernel_rfl) rfl)), fun _ _ => FU_mk (.val undef) rfl rfl⟩
                  · intro a7 wz hb hd hs7 ho hp
                    exact Or.inr ⟨wanted_no rfl (yielded_at (k := 2) (d := 117) (by kernel_rfl) (uval_at hp 2 117 (by kernel_rfl) rfl)), fun _ _ => FU_mk (.val undef) rfl rfl⟩
                  · intro a7 wz hb hd hs7 ho hp
                    exact Or.inr ⟨wanted_no rfl (yielded_at (k := 2) (d := 117) (by kernel_rfl) (uval_at hp 2 117 (by kernel_rfl) rfl)), fun _ _ => FU_mk (.val undef) rfl rfl⟩
                  · intro a7 wz hb hd hs7 ho hp
                    exact Or.inr ⟨wanted_no rfl (yielded_at (k := 2) (d := 117) (by kernel_rfl) (uval_at hp 2 117 (by kernel_rfl) rfl)), fun _ _ => FU_mk (.val undef) rfl rfl⟩
                  · intro a7 wz hb hd hs7 ho hp
                    exact Or.inr ⟨wanted_no rfl (yielded_at (k := 2) (d := 117) (by kernel_rfl) (uval_at hp 2 117 (by kernel_rfl) rfl)), fun _ _ => FU_mk (.val undef) rfl rfl⟩
                  · intro a7 wz hb hd hs7 ho hp
                    exact Or.inr ⟨wanted_no rfl (yielded_at (k := 2) (d := 117) (by kernel_rfl) (uval_at hp 2 117 (by kernel_rfl) rfl)), fun _ _ => FU_mk (.val undef) rfl rfl⟩
                  · intro a7 wz hb hd hs7 ho hp
                    exact Or.inr ⟨wanted_no rfl (yielded_at (k := 2) (d := 117) (by kernel_rfl) (uval_at hp 2 117 (by kernel_rfl) rfl)), fun _ _ => FU_mk (.val undef) rfl rfl⟩
                  · intro a7 wz hb hd hs7 ho hp
                    refine Or.inl ⟨rfl, ?_⟩
                    have h117 : a7.tmps.getD 117 undef = .bool false := uval_at hp 2 117 (by kernel_rfl) rfl
                    have h127 : a7.tmps.getD 127 undef = undef := uval_at hp 12 127 (by kernel_rfl) rfl
                    unfold Oper.wp
                    go_simp
                    exact Stepped.at rfl hd (Below.refl _ _) (FU_mk (.val (.bool false)) rfl (by first | rfl | simp | (congr 1; omega) | (congr 1; exact decide_eq_false (by omega)) | (congr 1; exact decide_eq_true (by omega)) | trace_state))
                  · intro a7 wz hb hd hs7 ho hp
                    refine Or.inl ⟨rfl, ?_⟩
                    have h128 : a7.tmps.getD 128 undef = .bool false := uval_at hp 13 128 (by kernel_rfl) rfl
                    unfold Oper.wp
                    go_simp
                    exact Stepped.at rfl hd (Below.refl _ _) (FU_mk (.val (.bool false)) rfl (by first | rfl | simp | (congr 1; omega) | (congr 1; exact decide_eq_false (by omega)) | (congr 1; exact decide_eq_true (by omega)) | trace_state))
                  · intro a7 wz hb hd hs7 ho hp
                    refine Or.inl ⟨wanted_yes rfl (yielded_at (k := 14) (d := 129) (by kernel_rfl) (uval_at hp 14 129 (by kernel_rfl) rfl)), ?_⟩
                    have h5 : a7.tmps.getD 5 undef = _ := (ho 5 (by kernel_rfl)).trans rfl
                    unfold Oper.wp
                    go_simp
                    exact Stepped.at rfl hd (Below.refl _ _) (FU_mk (.val (.slice a5 (toBa LL).length c5)) rfl (by first | rfl | simp | (congr 1; omega) | (congr 1; exact decide_eq_false (by omega)) | (congr 1; exact decide_eq_true (by omega)) | trace_state))
                  · intro a7 wz hb hd hs7 ho hp
                    refine Or.inl ⟨wanted_yes rfl (yielded_at (k := 14) (d := 129) (by kernel_rfl) (uval_at hp 14 129 (by kernel_rfl) rfl)), ?_⟩
                    have h8 : a7.tmps.getD 8 undef = _ := (ho 8 (by kernel_rfl)).trans rfl
                    unfold Oper.wp
                    go_simp
                    exact Stepped.at rfl hd (Below.refl _ _) (FU_mk (.val (.slice (some ⟨bl, ofl, none⟩) (toBa ss).length cl)) rfl (by first | rfl | simp | (congr 1; omega) | (congr 1; exact decide_eq_false (by omega)) | (congr 1; exact decide_eq_true (by omega)) | trace_state))
                  · intro a7 wz hb hd hs7 ho hp
                    refine Or.inl ⟨wanted_yes rfl (yielded_at (k := 14) (d := 129) (by kernel_rfl) (uval_at hp 14 129 (by kernel_rfl) rfl)), ?_⟩
                    have h9 : a7.tmps.getD 9 undef = _ := (ho 9 (by kernel_rfl)).trans rfl
                    unfold Oper.wp
                    go_simp
                    exact Stepped.at rfl hd (Below.refl _ _) (FU_mk (.val (.int .i64 q)) rfl (by first | rfl | simp | (congr 1; omega) | (congr 1; exact decide_eq_false (by omega)) | (congr 1; exact decide_eq_true (by omega)) | trace_state))
                  · intro a7 wz hb hd hs7 ho hp
                    refine Or.inl ⟨wanted_yes rfl (yielded_at (k := 14) (d := 129) (by kernel_rfl) (uval_at hp 14 129 (by kernel_rfl) rfl)), ?_⟩
                    have h131 : a7.tmps.getD 131 undef = .slice (some ⟨bl, ofl, none⟩) (toBa ss).length cl := uval_at hp 16 131 (by kernel_rfl) rfl
                    have h132 : a7.tmps.getD 132 undef = .int .i64 q := uval_at hp 17 132 (by kernel_rfl) rfl
                    unfold Oper.wp
                    go_simp
                    exact Stepped.at rfl hd (Below.refl _ _) (FU_mk (.val (.pointer (some ⟨bl, ofl + q, none⟩))) rfl (by first | rfl | simp | (congr 1; omega) | (congr 1; exact decide_eq_false (by omega)) | (congr 1; exact decide_eq_true (by omega)) | trace_state))
                  · intro a7 wz hb hd hs7 ho hp
                    refine Or.inl ⟨wanted_yes rfl (yielded_at (k := 14) (d := 129) (by kernel_rfl) (uval_at hp 14 129 (by kernel_rfl) rfl)), ?_⟩
                    have h133 : a7.tmps.getD 133 undef = .pointer (some ⟨bl, ofl + q, none⟩) := uval_at hp 18 133 (by kernel_rfl) rfl
                    have y0 := (hb.cell (p := ⟨bl, ofl + q, none⟩) hblt).trans k1
                    unfold Oper.wp
                    go_simp
                    exact Stepped.at rfl hd (Below.refl _ _) (FU_mk (.val (.string A1)) rfl rfl)
                  · intro a7 wz hb hd hs7 ho hp
                    refine Or.inl ⟨wanted_yes rfl (yielded_at (k := 14) (d := 129) (by kernel_rfl) (uval_at hp 14 129 (by kernel_rfl) rfl)), ?_⟩
                    have h130 : a7.tmps.getD 130 undef = .slice a5 (toBa LL).length c5 := uval_at hp 15 130 (by kernel_rfl) rfl
                    have h134 : a7.tmps.getD 134 undef = .string A1 := uval_at hp 19 134 (by kernel_rfl) rfl
                    unfold Oper.wp
                    go_simp
                    refine (HHAS.out wz (hBq.trans (hb.mono hBq.size))).mono ?_
                    rintro e w2 ⟨rfl, rfl⟩
                    exact Stepped.at rfl hd (Below.refl _ _) (FU_mk (.val (.bool true)) rfl rfl)
                  · intro a7 wz hb hd hs7 ho hp
                    refine Or.inl ⟨wanted_yes rfl (yielded_at (k := 14) (d := 129) (by kernel_rfl) (uval_at hp 14 129 (by kernel_rfl) rfl)), ?_⟩
                    have h135 : a7.tmps.getD 135 undef = .bool true := uval_at hp 20 135 (by kernel_rfl) rfl
                    unfold Oper.wp
                    go_simp
                    exact Stepped.at rfl hd (Below.refl _ _) (FU_mk (.val (.bool false)) rfl (by first | rfl | simp | (congr 1; omega) | (congr 1; exact decide_eq_false (by omega)) | (congr 1; exact decide_eq_true (by omega)) | trace_state))
                  · intro a7 wz hb hd hs7 ho hp
                    refine Or.inl ⟨rfl, ?_⟩
                    have h129 : a7.tmps.getD 129 undef = .bool false := uval_at hp 14 129 (by kernel_rfl) rfl
                    have h136 : a7.tmps.getD 136 undef = .bool false := uval_at hp 21 136 (by kernel_rfl) rfl
                    unfold Oper.wp
                    go_simp
                    exact Stepped.at rfl hd (Below.refl _ _) (FU_mk (.val (.bool false)) rfl (by first | rfl | simp | (congr 1; omega) | (congr 1; exact decide_eq_false (by omega)) | (congr 1; exact decide_eq_true (by omega)) | trace_state))
                intro a7 wz hJ
                have h137 : a7.tmps.getD 137 undef = .bool false := FU_at (.val (.bool false)) rfl (hJ.at_end 22 137 (by kernel_rfl))
                have hBz := hBq.trans (hJ.below.mono hBq.size)
                obtain ⟨T7, D7⟩ := a7
                obtain rfl : D7 = [] := hJ.defers
                have hE := slots_merge [false, false, false, false, false, false, false, false, false, false, false, false, false, false, false, false, false, false, false, false, false, false, false, false, false, false, false, false, false, false, false, false, false, false, false, false, false, false, false, false, false, false, false, false, false, false, false, false, false, false, false, false, false, false, false, false, false, false, false, false, false, false, false, false, false, false, false, false, false, false, false, false, false, false, false, false, false, false, false, false, false, false, false, false, false, false, false, false, false, false, false, false, false, false, false, false, false, false, false, false, false, false, false, false, false, false, false, false, false, false, false, false, false, false, false, true, true, true, true, true, true, true, true, true, true, true, true, true, true, true, true, true, true, true, true, true, true, true, false, false, false, false, false, false, false, false, false, false, false, false, false] 151 hJ.tmps rfl (by kernel_rfl) hJ.outer
                simp only [mergeFrom, Nat.zero_add, Nat.reduceAdd, h137] at hE
                clear hJ h137
                generalize T7.getD 115 undef = z115 at hE
                generalize T7.getD 116 undef = z116 at hE
                generalize T7.getD 117 undef = z117 at hE
                generalize T7.getD 118 undef = z118 at hE
                generalize T7.getD 119 undef = z119 at hE
                generalize T7.getD 120 undef = z120 at hE
                generalize T7.getD 121 undef = z121 at hE
                generalize T7.getD 122 undef = z122 at hE
                generalize T7.getD 123 undef = z123 at hE
                generalize T7.getD 124 undef = z124 at hE
                generalize T7.getD 125 undef = z125 at hE
                generalize T7.getD 126 undef = z126 at hE
                generalize T7.getD 127 undef = z127 at hE
                generalize T7.getD 128 undef = z128 at hE
                generalize T7.getD 129 undef = z129 at hE
                generalize T7.getD 130 undef = z130 at hE
                generalize T7.getD 131 undef = z131 at hE
                generalize T7.getD 132 undef = z132 at hE
                generalize T7.getD 133 undef = z133 at hE
                generalize T7.getD 134 undef = z134 at hE
                generalize T7.getD 135 undef = z135 at hE
                generalize T7.getD 136 undef = z136 at hE
                subst hE
                rename_i K2 hK2
                refine hK2 _ _ ?_
                clear hK2
                clear hBq HHAS
                go_wp2_with fail
                go_roundw
                case rel => exact ⟨q + 1, by omega, by go_num, hBz⟩
                case measure => simp [intOf]; omega
              · obtain ⟨q1, hq1⟩ : ∃ r, q = r + 1 := ⟨q - 1, by omega⟩
                have hq1n : q1 < (toBa ss).length := by omega
                have k0 := (hBq.cell (p := ⟨bl, ofl + q1, none⟩) hblw).trans (hcc q1 hq1n)
                obtain ⟨l1, l2, l3⟩ := ba_less HSV.out q1 (by omega)
                have hAq : (toBa ss)[q1 + 1]'(by omega) = A1 := by rw [← hA1]; congr 1; omega
                rw [hAq] at l1 l2 l3
                obtain ⟨A0, hA0e⟩ : ∃ s, (toBa ss)[q1]'hq1n = s := ⟨_, rfl⟩
                rw [hA1] at k1 hhas
                rw [hA0e] at k0 l1 l2 l3
                have HHAS := Lib.hid hhas
                clear he0 hhas hA1 hA0e hAq
                have g0 : (0 : Int) < (q : Int) := by omega
                have g1 : (q : Int) - 1 = (q1 : Int) := by omega
                have g2 : (0 : Int) ≤ (q1 : Int) := by omega
                have g3 : (q1 : Int) < ((toBa ss).length : Int) := by omega
                have hwq : IntKind.i64.wrap (q1 : Int) = (q1 : Int) := IntWalk.i64_in _ (by omega)
                clear hq1 hq0
                go_wp2_with fail
                refine wp_region_grow_or (by kernel_rfl) (FU [.val (.int .i64 q), .val (.bool true), .val (.bool true), .val (.slice (some ⟨bl, ofl, none⟩) (toBa ss).length cl), .val (.int .i64 q), .val (.pointer (some ⟨bl, ofl + q, none⟩)), .val (.string A1), .val (.slice (some ⟨bl, ofl, none⟩) (toBa ss).length cl), .val (.int .i64 q), .val (.int .i64 q1), .val (.pointer (some ⟨bl, ofl + q1, none⟩)), .val (.string A0), .val (.bool false), .val (.bool false), .val (.bool false), .val (.slice a5 (toBa LL).length c5), .val (.slice (some ⟨bl, ofl, none⟩) (toBa ss).length cl), .val (.int .i64 q), .val (.pointer (some ⟨bl, ofl + q, none⟩)), .val (.string A1), .val (.bool true), .val (.bool false), .val (.bool false)]) (FU_grow _) (by kernel_rfl) (steps_or ?_) ?_
                · refine ⟨?_, ?_, ?_, ?_, ?_, ?_, ?_, ?_, ?_, ?_, ?_, ?_, ?_, ?_, ?_, ?_, ?_, ?_, ?_, ?_, ?_, ?_, ?_, trivial⟩
                  · intro a7 wz hb hd hs7 ho hp
                    refine Or.inl ⟨rfl, ?_⟩
                    have h9 : a7.tmps.getD 9 undef = _ := (ho 9 (by kernel_rfl)).trans rfl
                    unfold Oper.wp
                    go_simp
                    exact Stepped.at rfl hd (Below.refl _ _) (FU_mk (.val (.int .i64 q)) rfl (by first | rfl | simp | (congr 1; omega) | (congr 1; exact decide_eq_false (by omega)) | (congr 1; exact decide_eq_true (by omega)) | trace_state))
                  · intro a7 wz hb hd hs7 ho hp
                    refine Or.inl ⟨rfl, ?_⟩
                    have h115 : a7.tmps.getD 115 undef = .int .i64 q := uval_at hp 0 115 (by kernel_rfl) rfl
                    unfold Oper.wp
                    go_simp
                    exact Stepped.at rfl hd (Below.refl _ _) (FU_mk (.val (.bool true)) rfl (by first | rfl | simp | (congr 1; omega) | (congr 1; exact decide_eq_false (by omega)) | (congr 1; exact decide_eq_true (by omega)) | trace_state))
                  · intro a7 wz hb hd hs7 ho hp
                    refine Or.inl ⟨rfl, ?_⟩
                    have h116 : a7.tmps.getD 116 undef = .bool true := uval_at hp 1 116 (by kernel_rfl) rfl
                    unfold Oper.wp
                    go_simp
                    exact Stepped.at rfl hd (Below.refl _ _) (FU_mk (.val (.bool true)) rfl (by first | rfl | simp | (congr 1; omega) | (congr 1; exact decide_eq_false (by omega)) | (congr 1; exact decide_eq_true (by omega)) | trace_state))
                  · intro a7 wz hb hd hs7 ho hp
                    refine Or.inl ⟨wanted_yes rfl (yielded_at (k := 2) (d := 117) (by kernel_rfl) (uval_at hp 2 117 (by kernel_rfl) rfl)), ?_⟩
                    have h8 : a7.tmps.getD 8 undef = _ := (ho 8 (by kernel_rfl)).trans rfl
                    unfold Oper.wp
                    go_simp
                    exact Stepped.at rfl hd (Below.refl _ _) (FU_mk (.val (.slice (some ⟨bl, ofl, none⟩) (toBa ss).length cl)) rfl (by first | rfl | simp | (congr 1; omega) | (congr 1; exact decide_eq_false (by omega)) | (congr 1; exact decide_eq_true (by omega)) | trace_state))
                  · intro a7 wz hb hd hs7 ho hp
                    refine Or.inl ⟨wanted_yes rfl (yielded_at (k := 2) (d := 117) (by kernel_rfl) (uval_at hp 2 117 (by kernel_rfl) rfl)), ?_⟩
                    have h9 : a7.tmps.getD 9 undef = _ := (ho 9 (by kernel_rfl)).trans rfl
                    unfold Oper.wp
                    go_simp
                    exact Stepped.at rfl hd (Below.refl _ _) (FU_mk (.val (.int .i64 q)) rfl (by first | rfl | simp | (congr 1; omega) | (congr 1; exact decide_eq_false (by omega)) | (congr 1; exact decide_eq_true (by omega)) | trace_state))
                  · intro a7 wz hb hd hs7 ho hp
                    refine Or.inl ⟨wanted_yes rfl (yielded_at (k := 2) (d := 117) (by kernel_rfl) (uval_at hp 2 117 (by kernel_rfl) rfl)), ?_⟩
                    have h118 : a7.tmps.getD 118 undef = .slice (some ⟨bl, ofl, none⟩) (toBa ss).length cl := uval_at hp 3 118 (by kernel_rfl) rfl
                    have h119 : a7.tmps.getD 119 undef = .int .i64 q := uval_at hp 4 119 (by kernel_rfl) rfl
                    unfold Oper.wp
                    go_simp
                    exact Stepped.at rfl hd (Below.refl _ _) (FU_mk (.val (.pointer (some ⟨bl, ofl + q, none⟩))) rfl (by first | rfl | simp | (congr 1; omega) | (congr 1; exact decide_eq_false (by omega)) | (congr 1; exact decide_eq_true (by omega)) | trace_state))
                  · intro a7 wz hb hd hs7 ho hp
                    refine Or.inl ⟨wanted_yes rfl (yielded_at (k := 2) (d := 117) (by kernel_rfl) (uval_at hp 2 117 (by kernel_rfl) rfl)), ?_⟩
                    have h120 : a7.tmps.getD 120 undef = .pointer (some ⟨bl, ofl + q, none⟩) := uval_at hp 5 120 (by kernel_rfl) rfl
                    have y0 := (hb.cell (p := ⟨bl, ofl + q, none⟩) hblt).trans k1
                    unfold Oper.wp
                    go_simp
                    exact Stepped.at rfl hd (Below.refl _ _) (FU_mk (.val (.string A1)) rfl rfl)
                  · intro a7 wz hb hd hs7 ho hp
                    refine Or.inl ⟨wanted_yes rfl (yielded_at (k := 2) (d := 117) (by kernel_rfl) (uval_at hp 2 117 (by kernel_rfl) rfl)), ?_⟩
                    have h8 : a7.tmps.getD 8 undef = _ := (ho 8 (by kernel_rfl)).trans rfl
                    unfold Oper.wp
                    go_simp
                    exact Stepped.at rfl hd (Below.refl _ _) (FU_mk (.val (.slice (some ⟨bl, ofl, none⟩) (toBa ss).length cl)) rfl (by first | rfl | simp | (congr 1; omega) | (congr 1; exact decide_eq_false (by omega)) | (congr 1; exact decide_eq_true (by omega)) | trace_state))
                  · intro a7 wz hb hd hs7 ho hp
                    refine Or.inl ⟨wanted_yes rfl (yielded_at (k := 2) (d := 117) (by kernel_rfl) (uval_at hp 2 117 (by kernel_rfl) rfl)), ?_⟩
                    have h9 : a7.tmps.getD 9 undef = _ := (ho 9 (by kernel_rfl)).trans rfl
                    unfold Oper.wp
                    go_simp
                    exact Stepped.at rfl hd (Below.refl _ _) (FU_mk (.val (.int .i64 q)) rfl (by first | rfl | simp | (congr 1; omega) | (congr 1; exact decide_eq_false (by omega)) | (congr 1; exact decide_eq_true (by omega)) | trace_state))
                  · intro a7 wz hb hd hs7 ho hp
                    refine Or.inl ⟨wanted_yes rfl (yielded_at (k := 2) (d := 117) (by kernel_rfl) (uval_at hp 2 117 (by kernel_rfl) rfl)), ?_⟩
                    have h123 : a7.tmps.getD 123 undef = .int .i64 q := uval_at hp 8 123 (by kernel_rfl) rfl
                    unfold Oper.wp
                    go_simp
                    exact Stepped.at rfl hd (Below.refl _ _) (FU_mk (.val (.int .i64 q1)) rfl (by first | rfl | simp | (congr 1; omega) | (congr 1; exact decide_eq_false (by omega)) | (congr 1; exact decide_eq_true (by omega)) | trace_state))
                  · intro a7 wz hb hd hs7 ho hp
                    refine Or.inl ⟨wanted_yes rfl (yielded_at (k := 2) (d := 117) (by kernel_rfl) (uval_at hp 2 117 (by kernel_rfl) rfl)), ?_⟩
                    have h122 : a7.tmps.getD 122 undef = .slice (some ⟨bl, ofl, none⟩) (toBa ss).length cl := uval_at hp 7 122 (by kernel_rfl) rfl
                    have h124 : a7.tmps.getD 124 undef = .int .i64 q1 := uval_at hp 9 124 (by kernel_rfl) rfl
                    unfold Oper.wp
                    go_simp
                    exact Stepped.at rfl hd (Below.refl _ _) (FU_mk (.val (.pointer (some ⟨bl, ofl + q1, none⟩))) rfl (by first | rfl | simp | (congr 1; omega) | (congr 1; exact decide_eq_false (by omega)) | (congr 1; exact decide_eq_true (by omega)) | trace_state))
                  · intro a7 wz hb hd hs7 ho hp
                    refine Or.inl ⟨wanted_yes rfl (yielded_at (k := 2) (d := 117) (by kernel_rfl) (uval_at hp 2 117 (by kernel_rfl) rfl)), ?_⟩
                    have h125 : a7.tmps.getD 125 undef = .pointer (some ⟨bl, ofl + q1, none⟩) := uval_at hp 10 125 (by kernel_rfl) rfl
                    have y0 := (hb.cell (p := ⟨bl, ofl + q1, none⟩) hblt).trans k0
                    unfold Oper.wp
                    go_simp
                    exact Stepped.at rfl hd (Below.refl _ _) (FU_mk (.val (.string A0)) rfl rfl)
                  · intro a7 wz hb hd hs7 ho hp
                    refine Or.inl ⟨wanted_yes rfl (yielded_at (k := 2) (d := 117) (by kernel_rfl) (uval_at hp 2 117 (by kernel_rfl) rfl)), ?_⟩
                    have h121 : a7.tmps.getD 121 undef = .string A1 := uval_at hp 6 121 (by kernel_rfl) rfl
                    have h126 : a7.tmps.getD 126 undef = .string A0 := uval_at hp 11 126 (by kernel_rfl) rfl
                    unfold Oper.wp
                    go_simp
                    exact Stepped.at rfl hd (Below.refl _ _) (FU_mk (.val (.bool false)) rfl (by first | rfl | simp | (congr 1; omega) | (congr 1; exact decide_eq_false (by omega)) | (congr 1; exact decide_eq_true (by omega)) | trace_state))
                  · intro a7 wz hb hd hs7 ho hp
                    refine Or.inl ⟨rfl, ?_⟩
                    have h117 : a7.tmps.getD 117 undef = .bool true := uval_at hp 2 117 (by kernel_rfl) rfl
                    have h127 : a7.tmps.getD 127 undef = .bool false := uval_at hp 12 127 (by kernel_rfl) rfl
                    unfold Oper.wp
                    go_simp
                    exact Stepped.at rfl hd (Below.refl _ _) (FU_mk (.val (.bool false)) rfl (by first | rfl | simp | (congr 1; omega) | (congr 1; exact decide_eq_false (by omega)) | (congr 1; exact decide_eq_true (by omega)) | trace_state))
                  · intro a7 wz hb hd hs7 ho hp
                    refine Or.inl ⟨rfl, ?_⟩
                    have h128 : a7.tmps.getD 128 undef = .bool false := uval_at hp 13 128 (by kernel_rfl) rfl
                    unfold Oper.wp
                    go_simp
                    exact Stepped.at rfl hd (Below.refl _ _) (FU_mk (.val (.bool false)) rfl (by first | rfl | simp | (congr 1; omega) | (congr 1; exact decide_eq_false (by omega)) | (congr 1; exact decide_eq_true (by omega)) | trace_state))
                  · intro a7 wz hb hd hs7 ho hp
                    refine Or.inl ⟨wanted_yes rfl (yielded_at (k := 14) (d := 129) (by kernel_rfl) (uval_at hp 14 129 (by kernel_rfl) rfl)), ?_⟩
                    have h5 : a7.tmps.getD 5 undef = _ := (ho 5 (by kernel_rfl)).trans rfl
                    unfold Oper.wp
                    go_simp
                    exact Stepped.at rfl hd (Below.refl _ _) (FU_mk (.val (.slice a5 (toBa LL).length c5)) rfl (by first | rfl | simp | (congr 1; omega) | (congr 1; exact decide_eq_false (by omega)) | (congr 1; exact decide_eq_true (by omega)) | trace_state))
                  · intro a7 wz hb hd hs7 ho hp
                    refine Or.inl ⟨wanted_yes rfl (yielded_at (k := 14) (d := 129) (by kernel_rfl) (uval_at hp 14 129 (by kernel_rfl) rfl)), ?_⟩
                    have h8 : a7.tmps.getD 8 undef = _ := (ho 8 (by kernel_rfl)).trans rfl
                    unfold Oper.wp
                    go_simp
                    exact Stepped.at rfl hd (Below.refl _ _) (FU_mk (.val (.slice (some ⟨bl, ofl, none⟩) (toBa ss).length cl)) rfl (by first | rfl | simp | (congr 1; omega) | (congr 1; exact decide_eq_false (by omega)) | (congr 1; exact decide_eq_true (by omega)) | trace_state))
                  · intro a7 wz hb hd hs7 ho hp
                    refine Or.inl ⟨wanted_yes rfl (yielded_at (k := 14) (d := 129) (by kernel_rfl) (uval_at hp 14 129 (by kernel_rfl) rfl)), ?_⟩
                    have h9 : a7.tmps.getD 9 undef = _ := (ho 9 (by kernel_rfl)).trans rfl
                    unfold Oper.wp
                    go_simp
                    exact Stepped.at rfl hd (Below.refl _ _) (FU_mk (.val (.int .i64 q)) rfl (by first | rfl | simp | (congr 1; omega) | (congr 1; exact decide_eq_false (by omega)) | (congr 1; exact decide_eq_true (by omega)) | trace_state))
                  · intro a7 wz hb hd hs7 ho hp
                    refine Or.inl ⟨wanted_yes rfl (yielded_at (k := 14) (d := 129) (by kernel_rfl) (uval_at hp 14 129 (by kernel_rfl) rfl)), ?_⟩
                    have h131 : a7.tmps.getD 131 undef = .slice (some ⟨bl, ofl, none⟩) (toBa ss).length cl := uval_at hp 16 131 (by kernel_rfl) rfl
                    have h132 : a7.tmps.getD 132 undef = .int .i64 q := uval_at hp 17 132 (by kernel_rfl) rfl
                    unfold Oper.wp
                    go_simp
                    exact Stepped.at rfl hd (Below.refl _ _) (FU_mk (.val (.pointer (some ⟨bl, ofl + q, none⟩))) rfl (by first | rfl | simp | (congr 1; omega) | (congr 1; exact decide_eq_false (by omega)) | (congr 1; exact decide_eq_true (by omega)) | trace_state))
                  · intro a7 wz hb hd hs7 ho hp
                    refine Or.inl ⟨wanted_yes rfl (yielded_at (k := 14) (d := 129) (by kernel_rfl) (uval_at hp 14 129 (by kernel_rfl) rfl)), ?_⟩
                    have h133 : a7.tmps.getD 133 undef = .pointer (some ⟨bl, ofl + q, none⟩) := uval_at hp 18 133 (by kernel_rfl) rfl
                    have y0 := (hb.cell (p := ⟨bl, ofl + q, none⟩) hblt).trans k1
                    unfold Oper.wp
                    go_simp
                    exact Stepped.at rfl hd (Below.refl _ _) (FU_mk (.val (.string A1)) rfl rfl)
                  · intro a7 wz hb hd hs7 ho hp
                    refine Or.inl ⟨wanted_yes rfl (yielded_at (k := 14) (d := 129) (by kernel_rfl) (uval_at hp 14 129 (by kernel_rfl) rfl)), ?_⟩
                    have h130 : a7.tmps.getD 130 undef = .slice a5 (toBa LL).length c5 := uval_at hp 15 130 (by kernel_rfl) rfl
                    have h134 : a7.tmps.getD 134 undef = .string A1 := uval_at hp 19 134 (by kernel_rfl) rfl
                    unfold Oper.wp
                    go_simp
                    refine (HHAS.out wz (hBq.trans (hb.mono hBq.size))).mono ?_
                    rintro e w2 ⟨rfl, rfl⟩
                    exact Stepped.at rfl hd (Below.refl _ _) (FU_mk (.val (.bool true)) rfl rfl)
                  · intro a7 wz hb hd hs7 ho hp
                    refine Or.inl ⟨wanted_yes rfl (yielded_at (k := 14) (d := 129) (by kernel_rfl) (uval_at hp 14 129 (by kernel_rfl) rfl)), ?_⟩
                    have h135 : a7.tmps.getD 135 undef = .bool true := uval_at hp 20 135 (by kernel_rfl) rfl
                    unfold Oper.wp
                    go_simp
                    exact Stepped.at rfl hd (Below.refl _ _) (FU_mk (.val (.bool false)) rfl (by first | rfl | simp | (congr 1; omega) | (congr 1; exact decide_eq_false (by omega)) | (congr 1; exact decide_eq_true (by omega)) | trace_state))
                  · intro a7 wz hb hd hs7 ho hp
                    refine Or.inl ⟨rfl, ?_⟩
                    have h129 : a7.tmps.getD 129 undef = .bool false := uval_at hp 14 129 (by kernel_rfl) rfl
                    have h136 : a7.tmps.getD 136 undef = .bool false := uval_at hp 21 136 (by kernel_rfl) rfl
                    unfold Oper.wp
                    go_simp
                    exact Stepped.at rfl hd (Below.refl _ _) (FU_mk (.val (.bool false)) rfl (by first | rfl | simp | (congr 1; omega) | (congr 1; exact decide_eq_false (by omega)) | (congr 1; exact decide_eq_true (by omega)) | trace_state))
                intro a7 wz hJ
                have h137 : a7.tmps.getD 137 undef = .bool false := FU_at (.val (.bool false)) rfl (hJ.at_end 22 137 (by kernel_rfl))
                have hBz := hBq.trans (hJ.below.mono hBq.size)
                obtain ⟨T7, D7⟩ := a7
                obtain rfl : D7 = [] := hJ.defers
                have hE := slots_merge [false, false, false, false, false, false, false, false, false, false, false, false, false, false, false, false, false, false, false, false, false, false, false, false, false, false, false, false, false, false, false, false, false, false, false, false, false, false, false, false, false, false, false, false, false, false, false, false, false, false, false, false, false, false, false, false, false, false, false, false, false, false, false, false, false, false, false, false, false, false, false, false, false, false, false, false, false, false, false, false, false, false, false, false, false, false, false, false, false, false, false, false, false, false, false, false, false, false, false, false, false, false, false, false, false, false, false, false, false, false, false, false, false, false, false, true, true, true, true, true, true, true, true, true, true, true, true, true, true, true, true, true, true, true, true, true, true, true, false, false, false, false, false, false, false, false, false, false, false, false, false] 151 hJ.tmps rfl (by kernel_rfl) hJ.outer
                simp only [mergeFrom, Nat.zero_add, Nat.reduceAdd, h137] at hE
                clear hJ h137
                generalize T7.getD 115 undef = z115 at hE
                generalize T7.getD 116 undef = z116 at hE
                generalize T7.getD 117 undef = z117 at hE
                generalize T7.getD 118 undef = z118 at hE
                generalize T7.getD 119 undef = z119 at hE
                generalize T7.getD 120 undef = z120 at hE
                generalize T7.getD 121 undef = z121 at hE
                generalize T7.getD 122 undef = z122 at hE
                generalize T7.getD 123 undef = z123 at hE
                generalize T7.getD 124 undef = z124 at hE
                generalize T7.getD 125 undef = z125 at hE
                generalize T7.getD 126 undef = z126 at hE
                generalize T7.getD 127 undef = z127 at hE
                generalize T7.getD 128 undef = z128 at hE
                generalize T7.getD 129 undef = z129 at hE
                generalize T7.getD 130 undef = z130 at hE
                generalize T7.getD 131 undef = z131 at hE
                generalize T7.getD 132 undef = z132 at hE
                generalize T7.getD 133 undef = z133 at hE
                generalize T7.getD 134 undef = z134 at hE
                generalize T7.getD 135 undef = z135 at hE
                generalize T7.getD 136 undef = z136 at hE
                subst hE
                rename_i K2 hK2
                refine hK2 _ _ ?_
                clear hK2
                clear hBq HHAS
                go_wp2_with fail
                go_roundw
                case rel => exact ⟨q + 1, by omega, by go_num, hBz⟩
                case measure => simp [intOf]; omega
            · go_wp2_with fail
              go_loopw [10] (fun i wr => ∃ q : Nat, q ≤ (toBa LL).length ∧ i = .int .i64 q ∧ Below wy.heap.size wy wr) (fun i _ => (toBa LL).length - (intOf i).toNat)
              case atStart => exact ⟨0, Nat.zero_le _, by go_num, hBq⟩
              case round =>
                obtain ⟨p, hp, rfl, hBp⟩ := hrel
                have j1 : (0 : Int) ≤ (p : Int) := by omega
                by_cases hpn : p < (toBa LL).length
                · obtain ⟨i0, hi0, he0⟩ := ba_mem (fun x hx => (HM.out x).2 hx) p hpn
                  obtain ⟨a5', c5', e5, hx5, hc5⟩ := HSV5.out.grow hBp
                  injection e5 with e51 e52 e53
                  subst e51 e53
                  clear e52
                  obtain ⟨b5, of5, rfl, hb5, hcc5⟩ := hc5 (by intro e; rw [e] at hpn; simp at hpn)
                  have k1 := hcc5 p hpn
                  obtain ⟨B1, hB1⟩ : ∃ s, (toBa LL)[p] = s := ⟨_, rfl⟩
                  rw [hB1] at k1 he0
                  have SVL : StrV wr (.slice al (toBa ss).length cl) (toBa ss) := StrV.grow ⟨al, cl, rfl, by unfold maxLen; omega, HCL.out⟩ hBp
                  have HHAS := Lib.hid (has_true (toBa ss) B1 _ wr SVL i0 hi0 he0)
                  have j2 : (p : Int) < ((toBa LL).length : Int) := by omega
                  clear he0 hcc5 SVL hc5 hi0 hx5 hB1
                  go_wp2_with (go_at_call 12; refine HHAS.out.mono ?_; rintro e w2 ⟨rfl, rfl⟩)
                  go_roundw
                  case rel => exact ⟨p + 1, by omega, by go_num, hBp⟩
                  case measure => simp [intOf]; omega
                · have hBf := hBy.trans (hBp.mono hBy.size)
                  go_wp2_with fail
                  go_ret
                  exact ⟨rfl, hBf⟩
        · have e3 : (k == 3) = false := by simpa using hk3
          go_wp2_with fail
          refine (vars_any (.mk k n s us) _ _ _ _ wx ((HA0.out.below hBw).mono hBw.size) HhdT.out HhcT.out).mono ?_
          rintro e wy ⟨vl, ss, rfl, hss, hol, hby⟩
          clear x0 x1 x2 x3 r1x
          have hO5y := own_grow hO5x hby
          have hBy := hBw.trans (hby.mono hBw.size)
          have hsl := hnb ss hss
          have hLLl : L.length ≤ 301 := by omega
          have hmem : ∀ x, x ∈ ss ↔ x ∈ L := fun x => by rw [hss.2 x, names_all HN.out x, if_neg hk3]
          clear hO5x hBw hby hnb e3
          obtain ⟨LL, hLLe⟩ : ∃ l, L = l := ⟨_, rfl⟩
          rw [hLLe] at hO5y hmem hLLl
          have SV5 := owns_strv hO5y (by unfold maxLen; omega)
          have SVl := owns_strv hol (by unfold maxLen; omega)
          have hlen5 := toBa_length LL
          have hlenl := toBa_length ss
          have hb5n : (toBa LL).length ≤ 301 := by omega
          have hbln : (toBa ss).length ≤ 300 := by omega
          clear hLLe hO5y hol hlen5 hlenl hsl hLLl
          have HSV5 := Lib.hid SV5
          obtain ⟨a5, c5, rfl, hx1, hx2⟩ := SV5
          clear hx1 hx2
          obtain ⟨al, cl, rfl, hx3, hcl⟩ := SVl
          clear hx3
          have HCL := Lib.hid hcl
          have HSV := Lib.hid hss
          have HM := Lib.hid hmem
          clear hcl hss hmem
          go_wp2_with fail
          go_loopw [9] (fun i wr => ∃ q : Nat, q ≤ (toBa ss).length ∧ i = .int .i64 q ∧ Below wy.heap.size wy wr) (fun i _ => (toBa ss).length - (intOf i).toNat)
          case atStart => exact ⟨0, Nat.zero_le _, by go_num, Below.refl _ _⟩
          case round =>
            obtain ⟨q, hq, rfl, hBq⟩ := hrel
            have i1 : (0 : Int) ≤ (q : Int) := by omega
            by_cases hqn : q < (toBa ss).length
            · obtain ⟨bl, ofl, rfl, hblw, hcc⟩ := HCL.out (by intro e; rw [e] at hqn; simp at hqn)
              have hblt : bl < wr.heap.size := by have := hBq.size; omega
              obtain ⟨i0, hi0, he0⟩ := ba_mem (fun x hx => (HM.out x).1 hx) q hqn
              have k1 := (hBq.cell (p := ⟨bl, ofl + q, none⟩) hblw).trans (hcc q hqn)
              have hhas : ∀ wz, Below wy.heap.size wy wz → Calls Tryz.prog 12 #[.slice a5 (toBa LL).length c5, .string (toBa ss)[q]] wz fun e w' => e = .returned (.bool true) ∧ w' = wz := fun wz h => has_true (toBa LL) (toBa ss)[q] _ wz (HSV5.out.grow h) i0 hi0 he0
              have i2 : (q : Int) < ((toBa ss).length : Int) := by omega
              obtain ⟨A1, hA1⟩ : ∃ s, (toBa ss)[q] = s := ⟨_, rfl⟩
              by_cases hq0 : q = 0
              · rw [hA1] at k1 hhas
                have HHAS := Lib.hid hhas
                clear he0 hhas hA1
                have g0 : ¬ (0 : Int) < (q : Int) := by omega
                clear hq0
                go_wp2_with fail
                refine wp_region_grow_or (by kernel_rfl) (FU [.val (.int .i64 q), .val (.bool false), .val (.bool false), .val (undef), .val (undef), .val (undef), .val (undef), .val (undef), .val (undef), .val (undef), .val (undef), .val (undef), .val (undef), .val (.bool false), .val (.bool false), .val (.slice a5 (toBa LL).length c5), .val (.slice (some ⟨bl, ofl, none⟩) (toBa ss).length cl), .val (.int .i64 q), .val (.pointer (some ⟨bl, ofl + q, none⟩)), .val (.string A1), .val (.bool true), .val (.bool false), .val (.bool false)]) (FU_grow _) (by kernel_rfl) (steps_or ?_) ?_
                · refine ⟨?_, ?_, ?_, ?_, ?_, ?_, ?_, ?_, ?_, ?_, ?_, ?_, ?_, ?_, ?_, ?_, ?_, ?_, ?_, ?_, ?_, ?_, ?_, trivial⟩
                  · intro a7 wz hb hd hs7 ho hp
                    refine Or.inl ⟨rfl, ?_⟩
                    have h9 : a7.tmps.getD 9 undef = _ := (ho 9 (by kernel_rfl)).trans rfl
                    unfold Oper.wp
                    go_simp
                    exact Stepped.at rfl hd (Below.refl _ _) (FU_mk (.val (.int .i64 q)) rfl (by first | rfl | simp | (congr 1; omega) | (congr 1; exact decide_eq_false (by omega)) | (congr 1; exact decide_eq_true (by omega)) | trace_state))
                  · intro a7 wz hb hd hs7 ho hp
                    refine Or.inl ⟨rfl, ?_⟩
                    have h115 : a7.tmps.getD 115 undef = .int .i64 q := uval_at hp 0 115 (by kernel_rfl) rfl
                    unfold Oper.wp
                    go_simp
                    exact Stepped.at rfl hd (Below.refl _ _) (FU_mk (.val (.bool false)) rfl (by first | rfl | simp | (congr 1; omega) | (congr 1; exact decide_eq_false (by omega)) | (congr 1; exact decide_eq_true (by omega)) | trace_state))
                  · intro a7 wz hb hd hs7 ho hp
                    refine Or.inl ⟨rfl, ?_⟩
                    have h116 : a7.tmps.getD 116 undef = .bool false := uval_at hp 1 116 (by kernel_rfl) rfl
                    unfold Oper.wp
                    go_simp
                    exact Stepped.at rfl hd (Below.refl _ _) (FU_mk (.val (.bool false)) rfl (by first | rfl | simp | (congr 1; omega) | (congr 1; exact decide_eq_false (by omega)) | (congr 1; exact decide_eq_true (by omega)) | trace_state))
                  · intro a7 wz hb hd hs7 ho hp
                    exact Or.inr ⟨wanted_no rfl (yielded_at (k := 2) (d := 117) (by kernel_rfl) (uval_at hp 2 117 (by kernel_rfl) rfl)), fun _ _ => FU_mk (.val undef) rfl rfl⟩
                  · intro a7 wz hb hd hs7 ho hp
                    exact Or.inr ⟨wanted_no rfl (yielded_at (k := 2) (d := 117) (by kernel_rfl) (uval_at hp 2 117 (by kernel_rfl) rfl)), fun _ _ => FU_mk (.val undef) rfl rfl⟩
                  · intro a7 wz hb hd hs7 ho hp
                    exact Or.inr ⟨wanted_no rfl (yielded_at (k := 2) (d := 117) (by kernel_rfl) (uval_at hp 2 117 (by kernel_rfl) rfl)), fun _ _ => FU_mk (.val undef) rfl rfl⟩
                  · intro a7 wz hb hd hs7 ho hp
                    exact Or.inr ⟨wanted_no rfl (yielded_at (k := 2) (d := 117) (by kernel_rfl) (uval_at hp 2 117 (by kernel_rfl) rfl)), fun _ _ => FU_mk (.val undef) rfl rfl⟩
                  · intro a7 wz hb hd hs7 ho hp
                    exact Or.inr ⟨wanted_no rfl (yielded_at (k := 2) (d := 117) (by kernel_rfl) (uval_at hp 2 117 (by kernel_rfl) rfl)), fun _ _ => FU_mk (.val undef) rfl rfl⟩
                  · intro a7 wz hb hd hs7 ho hp
                    exact Or.inr ⟨wanted_no rfl (yielded_at (k := 2) (d := 117) (by kernel_rfl) (uval_at hp 2 117 (by kernel_rfl) rfl)), fun _ _ => FU_mk (.val undef) rfl rfl⟩
                  · intro a7 wz hb hd hs7 ho hp
                    exact Or.inr ⟨wanted_no rfl (yielded_at (k := 2) (d := 117) (by kernel_rfl) (uval_at hp 2 117 (by kernel_rfl) rfl)), fun _ _ => FU_mk (.val undef) rfl rfl⟩
                  · intro a7 wz hb hd hs7 ho hp
                    exact Or.inr ⟨wanted_no rfl (yielded_at (k := 2) (d := 117) (by kernel_rfl) (uval_at hp 2 117 (by kernel_rfl) rfl)), fun _ _ => FU_mk (.val undef) rfl rfl⟩
                  · intro a7 wz hb hd hs7 ho hp
                    exact Or.inr ⟨wanted_no rfl (yielded_at (k := 2) (d := 117) (by kernel_rfl) (uval_at hp 2 117 (by kernel_rfl) rfl)), fun _ _ => FU_mk (.val undef) rfl rfl⟩
                  · intro a7 wz hb hd hs7 ho hp
                    exact Or.inr ⟨wanted_no rfl (yielded_at (k := 2) (d := 117) (by kernel_rfl) (uval_at hp 2 117 (by kernel_rfl) rfl)), fun _ _ => FU_mk (.val undef) rfl rfl⟩
                  · intro a7 wz hb hd hs7 ho hp
                    refine Or.inl ⟨rfl, ?_⟩
                    have h117 : a7.tmps.getD 117 undef = .bool false := uval_at hp 2 117 (by kernel_rfl) rfl
                    have h127 : a7.tmps.getD 127 undef = undef := uval_at hp 12 127 (by kernel_rfl) rfl
                    unfold Oper.wp
                    go_simp
                    exact Stepped.at rfl hd (Below.refl _ _) (FU_mk (.val (.bool false)) rfl (by first | rfl | simp | (congr 1; omega) | (congr 1; exact decide_eq_false (by omega)) | (congr 1; exact decide_eq_true (by omega)) | trace_state))
                  · intro a7 wz hb hd hs7 ho hp
                    refine Or.inl ⟨rfl, ?_⟩
                    have h128 : a7.tmps.getD 128 undef = .bool false := uval_at hp 13 128 (by kernel_rfl) rfl
                    unfold Oper.wp
                    go_simp
                    exact Stepped.at rfl hd (Below.refl _ _) (FU_mk (.val (.bool false)) rfl (by first | rfl | simp | (congr 1; omega) | (congr 1; exact decide_eq_false (by omega)) | (congr 1; exact decide_eq_true (by omega)) | trace_state))
                  · intro a7 wz hb hd hs7 ho hp
                    refine Or.inl ⟨wanted_yes rfl (yielded_at (k := 14) (d := 129) (by kernel_rfl) (uval_at hp 14 129 (by kernel_rfl) rfl)), ?_⟩
                    have h5 : a7.tmps.getD 5 undef = _ := (ho 5 (by kernel_rfl)).trans rfl
                    unfold Oper.wp
                    go_simp
                    exact Stepped.at rfl hd (Below.refl _ _) (FU_mk (.val (.slice a5 (toBa LL).length c5)) rfl (by first | rfl | simp | (congr 1; omega) | (congr 1; exact decide_eq_false (by omega)) | (congr 1; exact decide_eq_true (by omega)) | trace_state))
                  · intro a7 wz hb hd hs7 ho hp
                    refine Or.inl ⟨wanted_yes rfl (yielded_at (k := 14) (d := 129) (by kernel_rfl) (uval_at hp 14 129 (by kernel_rfl) rfl)), ?_⟩
                    have h8 : a7.tmps.getD 8 undef = _ := (ho 8 (by kernel_rfl)).trans rfl
                    unfold Oper.wp
                    go_simp
                    exact Stepped.at rfl hd (Below.refl _ _) (FU_mk (.val (.slice (some ⟨bl, ofl, none⟩) (toBa ss).length cl)) rfl (by first | rfl | simp | (congr 1; omega) | (congr 1; exact decide_eq_false (by omega)) | (congr 1; exact decide_eq_true (by omega)) | trace_state))
                  · intro a7 wz hb hd hs7 ho hp
                    refine Or.inl ⟨wanted_yes rfl (yielded_at (k := 14) (d := 129) (by kernel_rfl) (uval_at hp 14 129 (by kernel_rfl) rfl)), ?_⟩
                    have h9 : a7.tmps.getD 9 undef = _ := (ho 9 (by kernel_rfl)).trans rfl
                    unfold Oper.wp
                    go_simp
                    exact Stepped.at rfl hd (Below.refl _ _) (FU_mk (.val (.int .i64 q)) rfl (by first | rfl | simp | (congr 1; omega) | (congr 1; exact decide_eq_false (by omega)) | (congr 1; exact decide_eq_true (by omega)) | trace_state))
                  · intro a7 wz hb hd hs7 ho hp
                    refine Or.inl ⟨wanted_yes rfl (yielded_at (k := 14) (d := 129) (by kernel_rfl) (uval_at hp 14 129 (by kernel_rfl) rfl)), ?_⟩
                    have h131 : a7.tmps.getD 131 undef = .slice (some ⟨bl, ofl, none⟩) (toBa ss).length cl := uval_at hp 16 131 (by kernel_rfl) rfl
                    have h132 : a7.tmps.getD 132 undef = .int .i64 q := uval_at hp 17 132 (by kernel_rfl) rfl
                    unfold Oper.wp
                    go_simp
                    exact Stepped.at rfl hd (Below.refl _ _) (FU_mk (.val (.pointer (some ⟨bl, ofl + q, none⟩))) rfl (by first | rfl | simp | (congr 1; omega) | (congr 1; exact decide_eq_false (by omega)) | (congr 1; exact decide_eq_true (by omega)) | trace_state))
                  · intro a7 wz hb hd hs7 ho hp
                    refine Or.inl ⟨wanted_yes rfl (yielded_at (k := 14) (d := 129) (by kernel_rfl) (uval_at hp 14 129 (by kernel_rfl) rfl)), ?_⟩
                    have h133 : a7.tmps.getD 133 undef = .pointer (some ⟨bl, ofl + q, none⟩) := uval_at hp 18 133 (by kernel_rfl) rfl
                    have y0 := (hb.cell (p := ⟨bl, ofl + q, none⟩) hblt).trans k1
                    unfold Oper.wp
                    go_simp
                    exact Stepped.at rfl hd (Below.refl _ _) (FU_mk (.val (.string A1)) rfl rfl)
                  · intro a7 wz hb hd hs7 ho hp
                    refine Or.inl ⟨wanted_yes rfl (yielded_at (k := 14) (d := 129) (by kernel_rfl) (uval_at hp 14 129 (by kernel_rfl) rfl)), ?_⟩
                    have h130 : a7.tmps.getD 130 undef = .slice a5 (toBa LL).length c5 := uval_at hp 15 130 (by kernel_rfl) rfl
                    have h134 : a7.tmps.getD 134 undef = .string A1 := uval_at hp 19 134 (by kernel_rfl) rfl
                    unfold Oper.wp
                    go_simp
                    refine (HHAS.out wz (hBq.trans (hb.mono hBq.size))).mono ?_
                    rintro e w2 ⟨rfl, rfl⟩
                    exact Stepped.at rfl hd (Below.refl _ _) (FU_mk (.val (.bool true)) rfl rfl)
                  · intro a7 wz hb hd hs7 ho hp
                    refine Or.inl ⟨wanted_yes rfl (yielded_at (k := 14) (d := 129) (by kernel_rfl) (uval_at hp 14 129 (by kernel_rfl) rfl)), ?_⟩
                    have h135 : a7.tmps.getD 135 undef = .bool true := uval_at hp 20 135 (by kernel_rfl) rfl
                    unfold Oper.wp
                    go_simp
                    exact Stepped.at rfl hd (Below.refl _ _) (FU_mk (.val (.bool false)) rfl (by first | rfl | simp | (congr 1; omega) | (congr 1; exact decide_eq_false (by omega)) | (congr 1; exact decide_eq_true (by omega)) | trace_state))
                  · intro a7 wz hb hd hs7 ho hp
                    refine Or.inl ⟨rfl, ?_⟩
                    have h129 : a7.tmps.getD 129 undef = .bool false := uval_at hp 14 129 (by kernel_rfl) rfl
                    have h136 : a7.tmps.getD 136 undef = .bool false := uval_at hp 21 136 (by kernel_rfl) rfl
                    unfold Oper.wp
                    go_simp
                    exact Stepped.at rfl hd (Below.refl _ _) (FU_mk (.val (.bool false)) rfl (by first | rfl | simp | (congr 1; omega) | (congr 1; exact decide_eq_false (by omega)) | (congr 1; exact decide_eq_true (by omega)) | trace_state))
                intro a7 wz hJ
                have h137 : a7.tmps.getD 137 undef = .bool false := FU_at (.val (.bool false)) rfl (hJ.at_end 22 137 (by kernel_rfl))
                have hBz := hBq.trans (hJ.below.mono hBq.size)
                obtain ⟨T7, D7⟩ := a7
                obtain rfl : D7 = [] := hJ.defers
                have hE := slots_merge [false, false, false, false, false, false, false, false, false, false, false, false, false, false, false, false, false, false, false, false, false, false, false, false, false, false, false, false, false, false, false, false, false, false, false, false, false, false, false, false, false, false, false, false, false, false, false, false, false, false, false, false, false, false, false, false, false, false, false, false, false, false, false, false, false, false, false, false, false, false, false, false, false, false, false, false, false, false, false, false, false, false, false, false, false, false, false, false, false, false, false, false, false, false, false, false, false, false, false, false, false, false, false, false, false, false, false, false, false, false, false, false, false, false, false, true, true, true, true, true, true, true, true, true, true, true, true, true, true, true, true, true, true, true, true, true, true, true, false, false, false, false, false, false, false, false, false, false, false, false, false] 151 hJ.tmps rfl (by kernel_rfl) hJ.outer
                simp only [mergeFrom, Nat.zero_add, Nat.reduceAdd, h137] at hE
                clear hJ h137
                generalize T7.getD 115 undef = z115 at hE
                generalize T7.getD 116 undef = z116 at hE
                generalize T7.getD 117 undef = z117 at hE
                generalize T7.getD 118 undef = z118 at hE
                generalize T7.getD 119 undef = z119 at hE
                generalize T7.getD 120 undef = z120 at hE
                generalize T7.getD 121 undef = z121 at hE
                generalize T7.getD 122 undef = z122 at hE
                generalize T7.getD 123 undef = z123 at hE
                generalize T7.getD 124 undef = z124 at hE
                generalize T7.getD 125 undef = z125 at hE
                generalize T7.getD 126 undef = z126 at hE
                generalize T7.getD 127 undef = z127 at hE
                generalize T7.getD 128 undef = z128 at hE
                generalize T7.getD 129 undef = z129 at hE
                generalize T7.getD 130 undef = z130 at hE
                generalize T7.getD 131 undef = z131 at hE
                generalize T7.getD 132 undef = z132 at hE
                generalize T7.getD 133 undef = z133 at hE
                generalize T7.getD 134 undef = z134 at hE
                generalize T7.getD 135 undef = z135 at hE
                generalize T7.getD 136 undef = z136 at hE
                subst hE
                rename_i K2 hK2
                refine hK2 _ _ ?_
                clear hK2
                clear hBq HHAS
                go_wp2_with fail
                go_roundw
                case rel => exact ⟨q + 1, by omega, by go_num, hBz⟩
                case measure => simp [intOf]; omega
              · obtain ⟨q1, hq1⟩ : ∃ r, q = r + 1 := ⟨q - 1, by omega⟩
                have hq1n : q1 < (toBa ss).length := by omega
                have k0 := (hBq.cell (p := ⟨bl, ofl + q1, none⟩) hblw).trans (hcc q1 hq1n)
                obtain ⟨l1, l2, l3⟩ := ba_less HSV.out q1 (by omega)
                have hAq : (toBa ss)[q1 + 1]'(by omega) = A1 := by rw [← hA1]; congr 1; omega
                rw [hAq] at l1 l2 l3
                obtain ⟨A0, hA0e⟩ : ∃ s, (toBa ss)[q1]'hq1n = s := ⟨_, rfl⟩
                rw [hA1] at k1 hhas
                rw [hA0e] at k0 l1 l2 l3
                have HHAS := Lib.hid hhas
                clear he0 hhas hA1 hA0e hAq
                have g0 : (0 : Int) < (q : Int) := by omega
                have g1 : (q : Int) - 1 = (q1 : Int) := by omega
                have g2 : (0 : Int) ≤ (q1 : Int) := by omega
                have g3 : (q1 : Int) < ((toBa ss).length : Int) := by omega
                have hwq : IntKind.i64.wrap (q1 : Int) = (q1 : Int) := IntWalk.i64_in _ (by omega)
                clear hq1 hq0
                go_wp2_with fail
                refine wp_region_grow_or (by kernel_rfl) (FU [.val (.int .i64 q), .val (.bool true), .val (.bool true), .val (.slice (some ⟨bl, ofl, none⟩) (toBa ss).length cl), .val (.int .i64 q), .val (.pointer (some ⟨bl, ofl + q, none⟩)), .val (.string A1), .val (.slice (some ⟨bl, ofl, none⟩) (toBa ss).length cl), .val (.int .i64 q), .val (.int .i64 q1), .val (.pointer (some ⟨bl, ofl + q1, none⟩)), .val (.string A0), .val (.bool false), .val (.bool false), .val (.bool false), .val (.slice a5 (toBa LL).length c5), .val (.slice (some ⟨bl, ofl, none⟩) (toBa ss).length cl), .val (.int .i64 q), .val (.pointer (some ⟨bl, ofl + q, none⟩)), .val (.string A1), .val (.bool true), .val (.bool false), .val (.bool false)]) (FU_grow _) (by kernel_rfl) (steps_or ?_) ?_
                · refine ⟨?_, ?_, ?_, ?_, ?_, ?_, ?_, ?_, ?_, ?_, ?_, ?_, ?_, ?_, ?_, ?_, ?_, ?_, ?_, ?_, ?_, ?_, ?_, trivial⟩
                  · intro a7 wz hb hd hs7 ho hp
                    refine Or.inl ⟨rfl, ?_⟩
                    have h9 : a7.tmps.getD 9 undef = _ := (ho 9 (by kernel_rfl)).trans rfl
                    unfold Oper.wp
                    go_simp
                    exact Stepped.at rfl hd (Below.refl _ _) (FU_mk (.val (.int .i64 q)) rfl (by first | rfl | simp | (congr 1; omega) | (congr 1; exact decide_eq_false (by omega)) | (congr 1; exact decide_eq_true (by omega)) | trace_state))
                  · intro a7 wz hb hd hs7 ho hp
                    refine Or.inl ⟨rfl, ?_⟩
                    have h115 : a7.tmps.getD 115 undef = .int .i64 q := uval_at hp 0 115 (by kernel_rfl) rfl
                    unfold Oper.wp
                    go_simp
                    exact Stepped.at rfl hd (Below.refl _ _) (FU_mk (.val (.bool true)) rfl (by first | rfl | simp | (congr 1; omega) | (congr 1; exact decide_eq_false (by omega)) | (congr 1; exact decide_eq_true (by omega)) | trace_state))
                  · intro a7 wz hb hd hs7 ho hp
                    refine Or.inl ⟨rfl, ?_⟩
                    have h116 : a7.tmps.getD 116 undef = .bool true := uval_at hp 1 116 (by kernel_rfl) rfl
                    unfold Oper.wp
                    go_simp
                    exact Stepped.at rfl hd (Below.refl _ _) (FU_mk (.val (.bool true)) rfl (by first | rfl | simp | (congr 1; omega) | (congr 1; exact decide_eq_false (by omega)) | (congr 1; exact decide_eq_true (by omega)) | trace_state))
                  · intro a7 wz hb hd hs7 ho hp
                    refine Or.inl ⟨wanted_yes rfl (yielded_at (k := 2) (d := 117) (by kernel_rfl) (uval_at hp 2 117 (by kernel_rfl) rfl)), ?_⟩
                    have h8 : a7.tmps.getD 8 undef = _ := (ho 8 (by kernel_rfl)).trans rfl
                    unfold Oper.wp
                    go_simp
                    exact Stepped.at rfl hd (Below.refl _ _) (FU_mk (.val (.slice (some ⟨bl, ofl, none⟩) (toBa ss).length cl)) rfl (by first | rfl | simp | (congr 1; omega) | (congr 1; exact decide_eq_false (by omega)) | (congr 1; exact decide_eq_true (by omega)) | trace_state))
                  · intro a7 wz hb hd hs7 ho hp
                    refine Or.inl ⟨wanted_yes rfl (yielded_at (k := 2) (d := 117) (by kernel_rfl) (uval_at hp 2 117 (by kernel_rfl) rfl)), ?_⟩
                    have h9 : a7.tmps.getD 9 undef = _ := (ho 9 (by kernel_rfl)).trans rfl
                    unfold Oper.wp
                    go_simp
                    exact Stepped.at rfl hd (Below.refl _ _) (FU_mk (.val (.int .i64 q)) rfl (by first | rfl | simp | (congr 1; omega) | (congr 1; exact decide_eq_false (by omega)) | (congr 1; exact decide_eq_true (by omega)) | trace_state))
                  · intro a7 wz hb hd hs7 ho hp
                    refine Or.inl ⟨wanted_yes rfl (yielded_at (k := 2) (d := 117) (by kernel_rfl) (uval_at hp 2 117 (by kernel_rfl) rfl)), ?_⟩
                    have h118 : a7.tmps.getD 118 undef = .slice (some ⟨bl, ofl, none⟩) (toBa ss).length cl := uval_at hp 3 118 (by kernel_rfl) rfl
                    have h119 : a7.tmps.getD 119 undef = .int .i64 q := uval_at hp 4 119 (by kernel_rfl) rfl
                    unfold Oper.wp
                    go_simp
                    exact Stepped.at rfl hd (Below.refl _ _) (FU_mk (.val (.pointer (some ⟨bl, ofl + q, none⟩))) rfl (by first | rfl | simp | (congr 1; omega) | (congr 1; exact decide_eq_false (by omega)) | (congr 1; exact decide_eq_true (by omega)) | trace_state))
                  · intro a7 wz hb hd hs7 ho hp
                    refine Or.inl ⟨wanted_yes rfl (yielded_at (k := 2) (d := 117) (by kernel_rfl) (uval_at hp 2 117 (by kernel_rfl) rfl)), ?_⟩
                    have h120 : a7.tmps.getD 120 undef = .pointer (some ⟨bl, ofl + q, none⟩) := uval_at hp 5 120 (by kernel_rfl) rfl
                    have y0 := (hb.cell (p := ⟨bl, ofl + q, none⟩) hblt).trans k1
                    unfold Oper.wp
                    go_simp
                    exact Stepped.at rfl hd (Below.refl _ _) (FU_mk (.val (.string A1)) rfl rfl)
                  · intro a7 wz hb hd hs7 ho hp
                    refine Or.inl ⟨wanted_yes rfl (yielded_at (k := 2) (d := 117) (by kernel_rfl) (uval_at hp 2 117 (by kernel_rfl) rfl)), ?_⟩
                    have h8 : a7.tmps.getD 8 undef = _ := (ho 8 (by kernel_rfl)).trans rfl
                    unfold Oper.wp
                    go_simp
                    exact Stepped.at rfl hd (Below.refl _ _) (FU_mk (.val (.slice (some ⟨bl, ofl, none⟩) (toBa ss).length cl)) rfl (by first | rfl | simp | (congr 1; omega) | (congr 1; exact decide_eq_false (by omega)) | (congr 1; exact decide_eq_true (by omega)) | trace_state))
                  · intro a7 wz hb hd hs7 ho hp
                    refine Or.inl ⟨wanted_yes rfl (yielded_at (k := 2) (d := 117) (by kernel_rfl) (uval_at hp 2 117 (by kernel_rfl) rfl)), ?_⟩
                    have h9 : a7.tmps.getD 9 undef = _ := (ho 9 (by kernel_rfl)).trans rfl
                    unfold Oper.wp
                    go_simp
                    exact Stepped.at rfl hd (Below.refl _ _) (FU_mk (.val (.int .i64 q)) rfl (by first | rfl | simp | (congr 1; omega) | (congr 1; exact decide_eq_false (by omega)) | (congr 1; exact decide_eq_true (by omega)) | trace_state))
                  · intro a7 wz hb hd hs7 ho hp
                    refine Or.inl ⟨wanted_yes rfl (yielded_at (k := 2) (d := 117) (by kernel_rfl) (uval_at hp 2 117 (by kernel_rfl) rfl)), ?_⟩
                    have h123 : a7.tmps.getD 123 undef = .int .i64 q := uval_at hp 8 123 (by kernel_rfl) rfl
                    unfold Oper.wp
                    go_simp
                    exact Stepped.at rfl hd (Below.refl _ _) (FU_mk (.val (.int .i64 q1)) rfl (by first | rfl | simp | (congr 1; omega) | (congr 1; exact decide_eq_false (by omega)) | (congr 1; exact decide_eq_true (by omega)) | trace_state))
                  · intro a7 wz hb hd hs7 ho hp
                    refine Or.inl ⟨wanted_yes rfl (yielded_at (k := 2) (d := 117) (by kernel_rfl) (uval_at hp 2 117 (by kernel_rfl) rfl)), ?_⟩
                    have h122 : a7.tmps.getD 122 undef = .slice (some ⟨bl, ofl, none⟩) (toBa ss).length cl := uval_at hp 7 122 (by kernel_rfl) rfl
                    have h124 : a7.tmps.getD 124 undef = .int .i64 q1 := uval_at hp 9 124 (by kernel_rfl) rfl
                    unfold Oper.wp
                    go_simp
                    exact Stepped.at rfl hd (Below.refl _ _) (FU_mk (.val (.pointer (some ⟨bl, ofl + q1, none⟩))) rfl (by first | rfl | simp | (congr 1; omega) | (congr 1; exact decide_eq_false (by omega)) | (congr 1; exact decide_eq_true (by omega)) | trace_state))
                  · intro a7 wz hb hd hs7 ho hp
                    refine Or.inl ⟨wanted_yes rfl (yielded_at (k := 2) (d := 117) (by kernel_rfl) (uval_at hp 2 117 (by kernel_rfl) rfl)), ?_⟩
                    have h125 : a7.tmps.getD 125 undef = .pointer (some ⟨bl, ofl + q1, none⟩) := uval_at hp 10 125 (by kernel_rfl) rfl
                    have y0 := (hb.cell (p := ⟨bl, ofl + q1, none⟩) hblt).trans k0
                    unfold Oper.wp
                    go_simp
                    exact Stepped.at rfl hd (Below.refl _ _) (FU_mk (.val (.string A0)) rfl rfl)
                  · intro a7 wz hb hd hs7 ho hp
                    refine Or.inl ⟨wanted_yes rfl (yielded_at (k := 2) (d := 117) (by kernel_rfl) (uval_at hp 2 117 (by kernel_rfl) rfl)), ?_⟩
                    have h121 : a7.tmps.getD 121 undef = .string A1 := uval_at hp 6 121 (by kernel_rfl) rfl
                    have h126 : a7.tmps.getD 126 undef = .string A0 := uval_at hp 11 126 (by kernel_rfl) rfl
                    unfold Oper.wp
                    go_simp
                    exact Stepped.at rfl hd (Below.refl _ _) (FU_mk (.val (.bool false)) rfl (by first | rfl | simp | (congr 1; omega) | (congr 1; exact decide_eq_false (by omega)) | (congr 1; exact decide_eq_true (by omega)) | trace_state))
                  · intro a7 wz hb hd hs7 ho hp
                    refine Or.inl ⟨rfl, ?_⟩
                    have h117 : a7.tmps.getD 117 undef = .bool true := uval_at hp 2 117 (by kernel_rfl) rfl
                    have h127 : a7.tmps.getD 127 undef = .bool false := uval_at hp 12 127 (by kernel_rfl) rfl
                    unfold Oper.wp
                    go_simp
                    exact Stepped.at rfl hd (Below.refl _ _) (FU_mk (.val (.bool false)) rfl (by first | rfl | simp | (congr 1; omega) | (congr 1; exact decide_eq_false (by omega)) | (congr 1; exact decide_eq_true (by omega)) | trace_state))
                  · intro a7 wz hb hd hs7 ho hp
                    refine Or.inl ⟨rfl, ?_⟩
                    have h128 : a7.tmps.getD 128 undef = .bool false := uval_at hp 13 128 (by kernel_rfl) rfl
                    unfold Oper.wp
                    go_simp
                    exact Stepped.at rfl hd (Below.refl _ _) (FU_mk (.val (.bool false)) rfl (by first | rfl | simp | (congr 1; omega) | (congr 1; exact decide_eq_false (by omega)) | (congr 1; exact decide_eq_true (by omega)) | trace_state))
                  · intro a7 wz hb hd hs7 ho hp
                    refine Or.inl ⟨wanted_yes rfl (yielded_at (k := 14) (d := 129) (by kernel_rfl) (uval_at hp 14 129 (by kernel_rfl) rfl)), ?_⟩
                    have h5 : a7.tmps.getD 5 undef = _ := (ho 5 (by kernel_rfl)).trans rfl
                    unfold Oper.wp
                    go_simp
                    exact Stepped.at rfl hd (Below.refl _ _) (FU_mk (.val (.slice a5 (toBa LL).length c5)) rfl (by first | rfl | simp | (congr 1; omega) | (congr 1; exact decide_eq_false (by omega)) | (congr 1; exact decide_eq_true (by omega)) | trace_state))
                  · intro a7 wz hb hd hs7 ho hp
                    refine Or.inl ⟨wanted_yes rfl (yielded_at (k := 14) (d := 129) (by kernel_rfl) (uval_at hp 14 129 (by kernel_rfl) rfl)), ?_⟩
                    have h8 : a7.tmps.getD 8 undef = _ := (ho 8 (by kernel_rfl)).trans rfl
                    unfold Oper.wp
                    go_simp
                    exact Stepped.at rfl hd (Below.refl _ _) (FU_mk (.val (.slice (some ⟨bl, ofl, none⟩) (toBa ss).length cl)) rfl (by first | rfl | simp | (congr 1; omega) | (congr 1; exact decide_eq_false (by omega)) | (congr 1; exact decide_eq_true (by omega)) | trace_state))
                  · intro a7 wz hb hd hs7 ho hp
                    refine Or.inl ⟨wanted_yes rfl (yielded_at (k := 14) (d := 129) (by kernel_rfl) (uval_at hp 14 129 (by kernel_rfl) rfl)), ?_⟩
                    have h9 : a7.tmps.getD 9 undef = _ := (ho 9 (by kernel_rfl)).trans rfl
                    unfold Oper.wp
                    go_simp
                    exact Stepped.at rfl hd (Below.refl _ _) (FU_mk (.val (.int .i64 q)) rfl (by first | rfl | simp | (congr 1; omega) | (congr 1; exact decide_eq_false (by omega)) | (congr 1; exact decide_eq_true (by omega)) | trace_state))
                  · intro a7 wz hb hd hs7 ho hp
                    refine Or.inl ⟨wanted_yes rfl (yielded_at (k := 14) (d := 129) (by kernel_rfl) (uval_at hp 14 129 (by kernel_rfl) rfl)), ?_⟩
                    have h131 : a7.tmps.getD 131 undef = .slice (some ⟨bl, ofl, none⟩) (toBa ss).length cl := uval_at hp 16 131 (by kernel_rfl) rfl
                    have h132 : a7.tmps.getD 132 undef = .int .i64 q := uval_at hp 17 132 (by kernel_rfl) rfl
                    unfold Oper.wp
                    go_simp
                    exact Stepped.at rfl hd (Below.refl _ _) (FU_mk (.val (.pointer (some ⟨bl, ofl + q, none⟩))) rfl (by first | rfl | simp | (congr 1; omega) | (congr 1; exact decide_eq_false (by omega)) | (congr 1; exact decide_eq_true (by omega)) | trace_state))
                  · intro a7 wz hb hd hs7 ho hp
                    refine Or.inl ⟨wanted_yes rfl (yielded_at (k := 14) (d := 129) (by kernel_rfl) (uval_at hp 14 129 (by kernel_rfl) rfl)), ?_⟩
                    have h133 : a7.tmps.getD 133 undef = .pointer (some ⟨bl, ofl + q, none⟩) := uval_at hp 18 133 (by kernel_rfl) rfl
                    have y0 := (hb.cell (p := ⟨bl, ofl + q, none⟩) hblt).trans k1
                    unfold Oper.wp
                    go_simp
                    exact Stepped.at rfl hd (Below.refl _ _) (FU_mk (.val (.string A1)) rfl rfl)
                  · intro a7 wz hb hd hs7 ho hp
                    refine Or.inl ⟨wanted_yes rfl (yielded_at (k := 14) (d := 129) (by kernel_rfl) (uval_at hp 14 129 (by kernel_rfl) rfl)), ?_⟩
                    have h130 : a7.tmps.getD 130 undef = .slice a5 (toBa LL).length c5 := uval_at hp 15 130 (by kernel_rfl) rfl
                    have h134 : a7.tmps.getD 134 undef = .string A1 := uval_at hp 19 134 (by kernel_rfl) rfl
                    unfold Oper.wp
                    go_simp
                    refine (HHAS.out wz (hBq.trans (hb.mono hBq.size))).mono ?_
                    rintro e w2 ⟨rfl, rfl⟩
                    exact Stepped.at rfl hd (Below.refl _ _) (FU_mk (.val (.bool true)) rfl rfl)
                  · intro a7 wz hb hd hs7 ho hp
                    refine Or.inl ⟨wanted_yes rfl (yielded_at (k := 14) (d := 129) (by kernel_rfl) (uval_at hp 14 129 (by kernel_rfl) rfl)), ?_⟩
                    have h135 : a7.tmps.getD 135 undef = .bool true := uval_at hp 20 135 (by kernel_rfl) rfl
                    unfold Oper.wp
                    go_simp
                    exact Stepped.at rfl hd (Below.refl _ _) (FU_mk (.val (.bool false)) rfl (by first | rfl | simp | (congr 1; omega) | (congr 1; exact decide_eq_false (by omega)) | (congr 1; exact decide_eq_true (by omega)) | trace_state))
                  · intro a7 wz hb hd hs7 ho hp
                    refine Or.inl ⟨rfl, ?_⟩
                    have h129 : a7.tmps.getD 129 undef = .bool false := uval_at hp 14 129 (by kernel_rfl) rfl
                    have h136 : a7.tmps.getD 136 undef = .bool false := uval_at hp 21 136 (by kernel_rfl) rfl
                    unfold Oper.wp
                    go_simp
                    exact Stepped.at rfl hd (Below.refl _ _) (FU_mk (.val (.bool false)) rfl (by first | rfl | simp | (congr 1; omega) | (congr 1; exact decide_eq_false (by omega)) | (congr 1; exact decide_eq_true (by omega)) | trace_state))
                intro a7 wz hJ
                have h137 : a7.tmps.getD 137 undef = .bool false := FU_at (.val (.bool false)) rfl (hJ.at_end 22 137 (by kernel_rfl))
                have hBz := hBq.trans (hJ.below.mono hBq.size)
                obtain ⟨T7, D7⟩ := a7
                obtain rfl : D7 = [] := hJ.defers
                have hE := slots_merge [false, false, false, false, false, false, false, false, false, false, false, false, false, false, false, false, false, false, false, false, false, false, false, false, false, false, false, false, false, false, false, false, false, false, false, false, false, false, false, false, false, false, false, false, false, false, false, false, false, false, false, false, false, false, false, false, false, false, false, false, false, false, false, false, false, false, false, false, false, false, false, false, false, false, false, false, false, false, false, false, false, false, false, false, false, false, false, false, false, false, false, false, false, false, false, false, false, false, false, false, false, false, false, false, false, false, false, false, false, false, false, false, false, false, false, true, true, true, true, true, true, true, true, true, true, true, true, true, true, true, true, true, true, true, true, true, true, true, false, false, false, false, false, false, false, false, false, false, false, false, false] 151 hJ.tmps rfl (by kernel_rfl) hJ.outer
                simp only [mergeFrom, Nat.zero_add, Nat.reduceAdd, h137] at hE
                clear hJ h137
                generalize T7.getD 115 undef = z115 at hE
                generalize T7.getD 116 undef = z116 at hE
                generalize T7.getD 117 undef = z117 at hE
                generalize T7.getD 118 undef = z118 at hE
                generalize T7.getD 119 undef = z119 at hE
                generalize T7.getD 120 undef = z120 at hE
                generalize T7.getD 121 undef = z121 at hE
                generalize T7.getD 122 undef = z122 at hE
                generalize T7.getD 123 undef = z123 at hE
                generalize T7.getD 124 undef = z124 at hE
                generalize T7.getD 125 undef = z125 at hE
                generalize T7.getD 126 undef = z126 at hE
                generalize T7.getD 127 undef = z127 at hE
                generalize T7.getD 128 undef = z128 at hE
                generalize T7.getD 129 undef = z129 at hE
                generalize T7.getD 130 undef = z130 at hE
                generalize T7.getD 131 undef = z131 at hE
                generalize T7.getD 132 undef = z132 at hE
                generalize T7.getD 133 undef = z133 at hE
                generalize T7.getD 134 undef = z134 at hE
                generalize T7.getD 135 undef = z135 at hE
                generalize T7.getD 136 undef = z136 at hE
                subst hE
                rename_i K2 hK2
                refine hK2 _ _ ?_
                clear hK2
                clear hBq HHAS
                go_wp2_with fail
                go_roundw
                case rel => exact ⟨q + 1, by omega, by go_num, hBz⟩
                case measure => simp [intOf]; omega
            · go_wp2_with fail
              go_loopw [10] (fun i wr => ∃ q : Nat, q ≤ (toBa LL).length ∧ i = .int .i64 q ∧ Below wy.heap.size wy wr) (fun i _ => (toBa LL).length - (intOf i).toNat)
              case atStart => exact ⟨0, Nat.zero_le _, by go_num, hBq⟩
              case round =>
                obtain ⟨p, hp, rfl, hBp⟩ := hrel
                have j1 : (0 : Int) ≤ (p : Int) := by omega
                by_cases hpn : p < (toBa LL).length
                · obtain ⟨i0, hi0, he0⟩ := ba_mem (fun x hx => (HM.out x).2 hx) p hpn
                  obtain ⟨a5', c5', e5, hx5, hc5⟩ := HSV5.out.grow hBp
                  injection e5 with e51 e52 e53
                  subst e51 e53
                  clear e52
                  obtain ⟨b5, of5, rfl, hb5, hcc5⟩ := hc5 (by intro e; rw [e] at hpn; simp at hpn)
                  have k1 := hcc5 p hpn
                  obtain ⟨B1, hB1⟩ : ∃ s, (toBa LL)[p] = s := ⟨_, rfl⟩
                  rw [hB1] at k1 he0
                  have SVL : StrV wr (.slice al (toBa ss).length cl) (toBa ss) := StrV.grow ⟨al, cl, rfl, by unfold maxLen; omega, HCL.out⟩ hBp
                  have HHAS := Lib.hid (has_true (toBa ss) B1 _ wr SVL i0 hi0 he0)
                  have j2 : (p : Int) < ((toBa LL).length : Int) := by omega
                  clear he0 hcc5 SVL hc5 hi0 hx5 hB1
                  go_wp2_with (go_at_call 12; refine HHAS.out.mono ?_; rintro e w2 ⟨rfl, rfl⟩)
                  go_roundw
                  case rel => exact ⟨p + 1, by omega, by go_num, hBp⟩
                  case measure => simp [intOf]; omega
                · have hBf := hBy.trans (hBp.mono hBy.size)
                  go_wp2_with fail
                  go_ret
                  exact ⟨rfl, hBf⟩
      have HJ := Lib.hid join
      clear hK join
      cases P
      · obtain rfl : VA = false := by simpa using hVP
        obtain rfl : V = false := parts_no hVG
        clear hVG hVP
        refine wp_region_grow_or (by kernel_rfl) (FU [.val (.agg #[.int .u8 k, .int .i64 n, .string s, .slice a us.length cap]), .val (.int .i64 ((Tm.depthL us : Int) + 1)), .val (.int .i64 (Tm.depthL us)), .val (.int .i64 ((Tm.depthL us : Int) + 1)), .val (.bool false), .val (.bool false), .val (.agg #[.int .u8 k, .int .i64 n, .string s, .slice a us.length cap]), .val (.bool false), .val (.bool false), .val (.bool false), .val (undef), .val (undef), .val (.bool false), .val (.bool false), .val (undef), .val (undef), .val (.bool false), .val (.bool false), .val (.bool false), .val (.bool false), .val (.agg #[.int .u8 k, .int .i64 n, .string s, .slice a us.length cap]), .val (.bool false), .val (.bool false), .val (undef), .val (undef), .val (undef), .val (undef), .val (undef), .val (undef), .val (undef), .val (undef), .val (.bool false), .val (.bool false), .val (.bool false), .val (.agg #[.int .u8 k, .int .i64 n, .string s, .slice a us.length cap]), .val (.bool G), .val (.agg #[.int .u8 k, .int .i64 n, .string s, .slice a us.length cap]), .pred (fun v => ∃ (a : Option Addr) (c : Nat) (ss : List (List UInt8)), SVars (.mk k n s us) ss ∧ v = .slice a ss.length c), .pred (fun v => ∃ (ss : List (List UInt8)), SVars (.mk k n s us) ss ∧ v = .int .i64 ss.length), .val (.bool G), .val (.bool false), .val (.bool false)]) (FU_grow _) (by kernel_rfl) (steps_or ?_) ?_
        · refine ⟨?_, ?_, ?_, ?_, ?_, ?_, ?_, ?_, ?_, ?_, ?_, ?_, ?_, ?_, ?_, ?_, ?_, ?_, ?_, ?_, ?_, ?_, ?_, ?_, ?_, ?_, ?_, ?_, ?_, ?_, ?_, ?_, ?_, ?_, ?_, ?_, ?_, ?_, ?_, ?_, ?_, ?_, trivial⟩
          · intro a7 wx hb hd hs7 ho hp
            refine Or.inl ⟨rfl, ?_⟩
            have h1 : a7.tmps.getD 1 undef = _ := (ho 1 (by kernel_rfl)).trans rfl
            have hx := HasRow.grow r1 hb
            have x0 := cells_at hx 0 _ rfl
            have x1 := cells_at hx 1 _ rfl
            have x2 := cells_at hx 2 _ rfl
            have x3 := cells_at hx 3 _ rfl
            unfold Oper.wp
            go_simp
            exact Stepped.at rfl hd (Below.refl _ _) (FU_mk (.val (.agg #[.int .u8 k, .int .i64 n, .string s, .slice a us.length cap])) rfl rfl)
          · intro a7 wx hb hd hs7 ho hp
            refine Or.inl ⟨rfl, ?_⟩
            have h57 : a7.tmps.getD 57 undef = .agg #[.int .u8 k, .int .i64 n, .string s, .slice a us.length cap] := uval_at hp 0 57 (by kernel_rfl) rfl
            unfold Oper.wp
            go_simp
            refine (HCD.out wx hb).mono ?_
            rintro e w2 ⟨rfl, hb2⟩
            exact Stepped.at rfl hd hb2 (FU_mk (.val (.int .i64 ((Tm.depthL us : Int) + 1))) rfl rfl)
          · intro a7 wx hb hd hs7 ho hp
            refine Or.inl ⟨rfl, ?_⟩
            have h4 : a7.tmps.getD 4 undef = _ := (ho 4 (by kernel_rfl)).trans rfl
            unfold Oper.wp
            go_simp
            exact Stepped.at rfl hd (Below.refl _ _) (FU_mk (.val (.int .i64 (Tm.depthL us))) rfl (by first | rfl | simp | exact congrArg _ hw))
          · intro a7 wx hb hd hs7 ho hp
            refine Or.inl ⟨rfl, ?_⟩
            have h59 : a7.tmps.getD 59 undef = .int .i64 (Tm.depthL us) := uval_at hp 2 59 (by kernel_rfl) rfl
            unfold Oper.wp
            go_simp
            exact Stepped.at rfl hd (Below.refl _ _) (FU_mk (.val (.int .i64 ((Tm.depthL us : Int) + 1))) rfl (by first | rfl | simp | exact congrArg _ hw))
          · intro a7 wx hb hd hs7 ho hp
            refine Or.inl ⟨rfl, ?_⟩
            have h58 : a7.tmps.getD 58 undef = .int .i64 ((Tm.depthL us : Int) + 1) := uval_at hp 1 58 (by kernel_rfl) rfl
            have h60 : a7.tmps.getD 60 undef = .int .i64 ((Tm.depthL us : Int) + 1) := uval_at hp 3 60 (by kernel_rfl) rfl
            unfold Oper.wp
            go_simp
            exact Stepped.at rfl hd (Below.refl _ _) (FU_mk (.val (.bool false)) rfl (by first | rfl | simp | exact congrArg _ hw))
          · intro a7 wx hb hd hs7 ho hp
            refine Or.inl ⟨rfl, ?_⟩
            have h61 : a7.tmps.getD 61 undef = .bool false := uval_at hp 4 61 (by kernel_rfl) rfl
            unfold Oper.wp
            go_simp
            exact Stepped.at rfl hd (Below.refl _ _) (FU_mk (.val (.bool false)) rfl (by first | rfl | simp | exact congrArg _ hw))
          · intro a7 wx hb hd hs7 ho hp
            refine Or.inl ⟨wanted_yes rfl (yielded_at (k := 5) (d := 62) (by kernel_rfl) (uval_at hp 5 62 (by kernel_rfl) rfl)), ?_⟩
            have h1 : a7.tmps.getD 1 undef = _ := (ho 1 (by kernel_rfl)).trans rfl
            have hx := HasRow.grow r1 hb
            have x0 := cells_at hx 0 _ rfl
            have x1 := cells_at hx 1 _ rfl
            have x2 := cells_at hx 2 _ rfl
            have x3 := cells_at hx 3 _ rfl
            unfold Oper.wp
            go_simp
            exact Stepped.at rfl hd (Below.refl _ _) (FU_mk (.val (.agg #[.int .u8 k, .int .i64 n, .string s, .slice a us.length cap])) rfl rfl)
          · intro a7 wx hb hd hs7 ho hp
            refine Or.inl ⟨wanted_yes rfl (yielded_at (k := 5) (d := 62) (by kernel_rfl) (uval_at hp 5 62 (by kernel_rfl) rfl)), ?_⟩
            have h63 : a7.tmps.getD 63 undef = .agg #[.int .u8 k, .int .i64 n, .string s, .slice a us.length cap] := uval_at hp 6 63 (by kernel_rfl) rfl
            unfold Oper.wp
            go_simp
            refine (HCA.out wx hb).mono ?_
            rintro e w2 ⟨rfl, hb2⟩
            exact Stepped.at rfl hd hb2 (FU_mk (.val (.bool false)) rfl rfl)
          · intro a7 wx hb hd hs7 ho hp
            refine Or.inl ⟨wanted_yes rfl (yielded_at (k := 5) (d := 62) (by kernel_rfl) (uval_at hp 5 62 (by kernel_rfl) rfl)), ?_⟩
            have h3 : a7.tmps.getD 3 undef = _ := (ho 3 (by kernel_rfl)).trans rfl
            unfold Oper.wp
            go_simp
            exact Stepped.at rfl hd (Below.refl _ _) (FU_mk (.val (.bool false)) rfl (by first | rfl | simp | exact congrArg _ hw))
          · intro a7 wx hb hd hs7 ho hp
            refine Or.inl ⟨wanted_yes rfl (yielded_at (k := 5) (d := 62) (by kernel_rfl) (uval_at hp 5 62 (by kernel_rfl) rfl)), ?_⟩
            have h65 : a7.tmps.getD 65 undef = .bool false := uval_at hp 8 65 (by kernel_rfl) rfl
            unfold Oper.wp
            go_simp
            exact Stepped.at rfl hd (Below.refl _ _) (FU_mk (.val (.bool false)) rfl (by first | rfl | simp | exact congrArg _ hw))
          · intro a7 wx hb hd hs7 ho hp
            exact Or.inr ⟨wanted_no rfl (yielded_at (k := 9) (d := 66) (by kernel_rfl) (uval_at hp 9 66 (by kernel_rfl) rfl)), fun _ _ => FU_mk (.val undef) rfl rfl⟩
          · intro a7 wx hb hd hs7 ho hp
            exact Or.inr ⟨wanted_no rfl (yielded_at (k := 9) (d := 66) (by kernel_rfl) (uval_at hp 9 66 (by kernel_rfl) rfl)), fun _ _ => FU_mk (.val undef) rfl rfl⟩
          · intro a7 wx hb hd hs7 ho hp
            refine Or.inl ⟨wanted_yes rfl (yielded_at (k := 5) (d := 62) (by kernel_rfl) (uval_at hp 5 62 (by kernel_rfl) rfl)), ?_⟩
            have h66 : a7.tmps.getD 66 undef = .bool false := uval_at hp 9 66 (by kernel_rfl) rfl
            have h68 : a7.tmps.getD 68 undef = undef := uval_at hp 11 68 (by kernel_rfl) rfl
            unfold Oper.wp
            go_simp
            exact Stepped.at rfl hd (Below.refl _ _) (FU_mk (.val (.bool false)) rfl (by first | rfl | simp | exact congrArg _ hw))
          · intro a7 wx hb hd hs7 ho hp
            refine Or.inl ⟨wanted_yes rfl (yielded_at (k := 5) (d := 62) (by kernel_rfl) (uval_at hp 5 62 (by kernel_rfl) rfl)), ?_⟩
            have h69 : a7.tmps.getD 69 undef = .bool false := uval_at hp 12 69 (by kernel_rfl) rfl
            unfold Oper.wp
            go_simp
            exact Stepped.at rfl hd (Below.refl _ _) (FU_mk (.val (.bool false)) rfl (by first | rfl | simp | exact congrArg _ hw))
          · intro a7 wx hb hd hs7 ho hp
            exact Or.inr ⟨wanted_no rfl (yielded_at (k := 13) (d := 70) (by kernel_rfl) (uval_at hp 13 70 (by kernel_rfl) rfl)), fun _ _ => FU_mk (.val undef) rfl rfl⟩
          · intro a7 wx hb hd hs7 ho hp
            exact Or.inr ⟨wanted_no rfl (yielded_at (k := 13) (d := 70) (by kernel_rfl) (uval_at hp 13 70 (by kernel_rfl) rfl)), fun _ _ => FU_mk (.val undef) rfl rfl⟩
          · intro a7 wx hb hd hs7 ho hp
            refine Or.inl ⟨wanted_yes rfl (yielded_at (k := 5) (d := 62) (by kernel_rfl) (uval_at hp 5 62 (by kernel_rfl) rfl)), ?_⟩
            have h70 : a7.tmps.getD 70 undef = .bool false := uval_at hp 13 70 (by kernel_rfl) rfl
            have h72 : a7.tmps.getD 72 undef = undef := uval_at hp 15 72 (by kernel_rfl) rfl
            unfold Oper.wp
            go_simp
            exact Stepped.at rfl hd (Below.refl _ _) (FU_mk (.val (.bool false)) rfl (by first | rfl | simp | exact congrArg _ hw))
          · intro a7 wx hb hd hs7 ho hp
            refine Or.inl ⟨wanted_yes rfl (yielded_at (k := 5) (d := 62) (by kernel_rfl) (uval_at hp 5 62 (by kernel_rfl) rfl)), ?_⟩
            have h64 : a7.tmps.getD 64 undef = .bool false := uval_at hp 7 64 (by kernel_rfl) rfl
            have h73 : a7.tmps.getD 73 undef = .bool false := uval_at hp 16 73 (by kernel_rfl) rfl
            unfold Oper.wp
            go_simp
            exact Stepped.at rfl hd (Below.refl _ _) (FU_mk (.val (.bool false)) rfl (by first | rfl | simp | exact congrArg _ hw))
          · intro a7 wx hb hd hs7 ho hp
            refine Or.inl ⟨rfl, ?_⟩
            have h62 : a7.tmps.getD 62 undef = .bool false := uval_at hp 5 62 (by kernel_rfl) rfl
            have h74 : a7.tmps.getD 74 undef = .bool false := uval_at hp 17 74 (by kernel_rfl) rfl
            unfold Oper.wp
            go_simp
            exact Stepped.at rfl hd (Below.refl _ _) (FU_mk (.val (.bool false)) rfl (by first | rfl | simp | exact congrArg _ hw))
          · intro a7 wx hb hd hs7 ho hp
            refine Or.inl ⟨rfl, ?_⟩
            have h75 : a7.tmps.getD 75 undef = .bool false := uval_at hp 18 75 (by kernel_rfl) rfl
            unfold Oper.wp
            go_simp
            exact Stepped.at rfl hd (Below.refl _ _) (FU_mk (.val (.bool false)) rfl (by first | rfl | simp | exact congrArg _ hw))
          · intro a7 wx hb hd hs7 ho hp
            refine Or.inl ⟨wanted_yes rfl (yielded_at (k := 19) (d := 76) (by kernel_rfl) (uval_at hp 19 76 (by kernel_rfl) rfl)), ?_⟩
            have h1 : a7.tmps.getD 1 undef = _ := (ho 1 (by kernel_rfl)).trans rfl
            have hx := HasRow.grow r1 hb
            have x0 := cells_at hx 0 _ rfl
            have x1 := cells_at hx 1 _ rfl
            have x2 := cells_at hx 2 _ rfl
            have x3 := cells_at hx 3 _ rfl
            unfold Oper.wp
            go_simp
            exact Stepped.at rfl hd (Below.refl _ _) (FU_mk (.val (.agg #[.int .u8 k, .int .i64 n, .string s, .slice a us.length cap])) rfl rfl)
          · intro a7 wx hb hd hs7 ho hp
            refine Or.inl ⟨wanted_yes rfl (yielded_at (k := 19) (d := 76) (by kernel_rfl) (uval_at hp 19 76 (by kernel_rfl) rfl)), ?_⟩
            have h77 : a7.tmps.getD 77 undef = .agg #[.int .u8 k, .int .i64 n, .string s, .slice a us.length cap] := uval_at hp 20 77 (by kernel_rfl) rfl
            unfold Oper.wp
            go_simp
            refine (HCL.out wx hb).mono ?_
            rintro e w2 ⟨rfl, hb2⟩
            exact Stepped.at rfl hd hb2 (FU_mk (.val (.bool false)) rfl rfl)
          · intro a7 wx hb hd hs7 ho hp
            refine Or.inl ⟨wanted_yes rfl (yielded_at (k := 19) (d := 76) (by kernel_rfl) (uval_at hp 19 76 (by kernel_rfl) rfl)), ?_⟩
            have h78 : a7.tmps.getD 78 undef = .bool false := uval_at hp 21 78 (by kernel_rfl) rfl
            unfold Oper.wp
            go_simp
            exact Stepped.at rfl hd (Below.refl _ _) (FU_mk (.val (.bool false)) rfl (by first | rfl | simp | exact congrArg _ hw))
          · intro a7 wx hb hd hs7 ho hp
            exact Or.inr ⟨wanted_no rfl (yielded_at (k := 22) (d := 79) (by kernel_rfl) (uval_at hp 22 79 (by kernel_rfl) rfl)), fun _ _ => FU_mk (.val undef) rfl rfl⟩
          · intro a7 wx hb hd hs7 ho hp
            exact Or.inr ⟨wanted_no rfl (yielded_at (k := 22) (d := 79) (by kernel_rfl) (uval_at hp 22 79 (by kernel_rfl) rfl)), fun _ _ => FU_mk (.val undef) rfl rfl⟩
          · intro a7 wx hb hd hs7 ho hp
            exact Or.inr ⟨wanted_no rfl (yielded_at (k := 22) (d := 79) (by kernel_rfl) (uval_at hp 22 79 (by kernel_rfl) rfl)), fun _ _ => FU_mk (.val undef) rfl rfl⟩
          · intro a7 wx hb hd hs7 ho hp
            exact Or.inr ⟨wanted_no rfl (yielded_at (k := 22) (d := 79) (by kernel_rfl) (uval_at hp 22 79 (by kernel_rfl) rfl)), fun _ _ => FU_mk (.val undef) rfl rfl⟩
          · intro a7 wx hb hd hs7 ho hp
            exact Or.inr ⟨wanted_none rfl (yielded_undef (k := 26) (d := 83) (by kernel_rfl) (uval_at hp 26 83 (by kernel_rfl) rfl)), fun _ _ => FU_mk (.val undef) rfl rfl⟩
          · intro a7 wx hb hd hs7 ho hp
            exact Or.inr ⟨wanted_none rfl (yielded_undef (k := 26) (d := 83) (by kernel_rfl) (uval_at hp 26 83 (by kernel_rfl) rfl)), fun _ _ => FU_mk (.val undef) rfl rfl⟩
          · intro a7 wx hb hd hs7 ho hp
            exact Or.inr ⟨wanted_none rfl (yielded_undef (k := 26) (d := 83) (by kernel_rfl) (uval_at hp 26 83 (by kernel_rfl) rfl)), fun _ _ => FU_mk (.val undef) rfl rfl⟩
          · intro a7 wx hb hd hs7 ho hp
            exact Or.inr ⟨wanted_no rfl (yielded_at (k := 22) (d := 79) (by kernel_rfl) (uval_at hp 22 79 (by kernel_rfl) rfl)), fun _ _ => FU_mk (.val undef) rfl rfl⟩
          · intro a7 wx hb hd hs7 ho hp
            refine Or.inl ⟨wanted_yes rfl (yielded_at (k := 19) (d := 76) (by kernel_rfl) (uval_at hp 19 76 (by kernel_rfl) rfl)), ?_⟩
            have h79 : a7.tmps.getD 79 undef = .bool false := uval_at hp 22 79 (by kernel_rfl) rfl
            have h87 : a7.tmps.getD 87 undef = undef := uval_at hp 30 87 (by kernel_rfl) rfl
            unfold Oper.wp
            go_simp
            exact Stepped.at rfl hd (Below.refl _ _) (FU_mk (.val (.bool false)) rfl (by first | rfl | simp | exact congrArg _ hw))
          · intro a7 wx hb hd hs7 ho hp
            refine Or.inl ⟨rfl, ?_⟩
            have h76 : a7.tmps.getD 76 undef = .bool false := uval_at hp 19 76 (by kernel_rfl) rfl
            have h88 : a7.tmps.getD 88 undef = .bool false := uval_at hp 31 88 (by kernel_rfl) rfl
            unfold Oper.wp
            go_simp
            exact Stepped.at rfl hd (Below.refl _ _) (FU_mk (.val (.bool false)) rfl (by first | rfl | simp | exact congrArg _ hw))
          · intro a7 wx hb hd hs7 ho hp
            refine Or.inl ⟨rfl, ?_⟩
            have h89 : a7.tmps.getD 89 undef = .bool false := uval_at hp 32 89 (by kernel_rfl) rfl
            unfold Oper.wp
            go_simp
            exact Stepped.at rfl hd (Below.refl _ _) (FU_mk (.val (.bool false)) rfl (by first | rfl | simp | exact congrArg _ hw))
          · intro a7 wx hb hd hs7 ho hp
            refine Or.inl ⟨wanted_yes rfl (yielded_at (k := 33) (d := 90) (by kernel_rfl) (uval_at hp 33 90 (by kernel_rfl) rfl)), ?_⟩
            have h1 : a7.tmps.getD 1 undef = _ := (ho 1 (by kernel_rfl)).trans rfl
            have hx := HasRow.grow r1 hb
            have x0 := cells_at hx 0 _ rfl
            have x1 := cells_at hx 1 _ rfl
            have x2 := cells_at hx 2 _ rfl
            have x3 := cells_at hx 3 _ rfl
            unfold Oper.wp
            go_simp
            exact Stepped.at rfl hd (Below.refl _ _) (FU_mk (.val (.agg #[.int .u8 k, .int .i64 n, .string s, .slice a us.length cap])) rfl rfl)
          · intro a7 wx hb hd hs7 ho hp
            refine Or.inl ⟨wanted_yes rfl (yielded_at (k := 33) (d := 90) (by kernel_rfl) (uval_at hp 33 90 (by kernel_rfl) rfl)), ?_⟩
            have h91 : a7.tmps.getD 91 undef = .agg #[.int .u8 k, .int .i64 n, .string s, .slice a us.length cap] := uval_at hp 34 91 (by kernel_rfl) rfl
            unfold Oper.wp
            go_simp
            refine (HCG.out wx hb).mono ?_
            rintro e w2 ⟨rfl, hb2⟩
            exact Stepped.at rfl hd hb2 (FU_mk (.val (.bool G)) rfl rfl)
          · intro a7 wx hb hd hs7 ho hp
            refine Or.inl ⟨wanted_yes rfl (yielded_at (k := 33) (d := 90) (by kernel_rfl) (uval_at hp 33 90 (by kernel_rfl) rfl)), ?_⟩
            have h1 : a7.tmps.getD 1 undef = _ := (ho 1 (by kernel_rfl)).trans rfl
            have hx := HasRow.grow r1 hb
            have x0 := cells_at hx 0 _ rfl
            have x1 := cells_at hx 1 _ rfl
            have x2 := cells_at hx 2 _ rfl
            have x3 := cells_at hx 3 _ rfl
            unfold Oper.wp
            go_simp
            exact Stepped.at rfl hd (Below.refl _ _) (FU_mk (.val (.agg #[.int .u8 k, .int .i64 n, .string s, .slice a us.length cap])) rfl rfl)
          · intro a7 wx hb hd hs7 ho hp
            refine Or.inl ⟨wanted_yes rfl (yielded_at (k := 33) (d := 90) (by kernel_rfl) (uval_at hp 33 90 (by kernel_rfl) rfl)), ?_⟩
            have h93 : a7.tmps.getD 93 undef = .agg #[.int .u8 k, .int .i64 n, .string s, .slice a us.length cap] := uval_at hp 36 93 (by kernel_rfl) rfl
            unfold Oper.wp
            go_simp
            refine (HCV.out wx hb).mono ?_
            rintro e w2 ⟨v, ss, rfl, hss, hoss, hb2⟩
            exact Stepped.at rfl hd hb2 (FU_mk (.pred (fun v => ∃ (a : Option Addr) (c : Nat) (ss : List (List UInt8)), SVars (.mk k n s us) ss ∧ v = .slice a ss.length c)) rfl (vars_pred hss hoss))
          · intro a7 wx hb hd hs7 ho hp
            refine Or.inl ⟨wanted_yes rfl (yielded_at (k := 33) (d := 90) (by kernel_rfl) (uval_at hp 33 90 (by kernel_rfl) rfl)), ?_⟩
            obtain ⟨aa, cc, ss, hss, h94⟩ := upred_at hp 37 94 (p := fun v => ∃ (a : Option Addr) (c : Nat) (ss : List (List UInt8)), SVars (.mk k n s us) ss ∧ v = .slice a ss.length c) (by kernel_rfl) rfl
            unfold Oper.wp
            go_simp
            exact Stepped.at rfl hd (Below.refl _ _) (FU_mk (.pred (fun v => ∃ (ss : List (List UInt8)), SVars (.mk k n s us) ss ∧ v = .int .i64 ss.length)) rfl ⟨ss, hss, rfl⟩)
          · intro a7 wx hb hd hs7 ho hp
            refine Or.inl ⟨wanted_yes rfl (yielded_at (k := 33) (d := 90) (by kernel_rfl) (uval_at hp 33 90 (by kernel_rfl) rfl)), ?_⟩
            obtain ⟨ss, hss, h95⟩ := upred_at hp 38 95 (p := fun v => ∃ (ss : List (List UInt8)), SVars (.mk k n s us) ss ∧ v = .int .i64 ss.length) (by kernel_rfl) rfl
            have hgv := HGV.out ss hss
            unfold Oper.wp
            go_simp
            exact Stepped.at rfl hd (Below.refl _ _) (FU_mk (.val (.bool G)) rfl (by first | rfl | exact congrArg Value.bool hgv))
          · intro a7 wx hb hd hs7 ho hp
            refine Or.inl ⟨wanted_yes rfl (yielded_at (k := 33) (d := 90) (by kernel_rfl) (uval_at hp 33 90 (by kernel_rfl) rfl)), ?_⟩
            have h92 : a7.tmps.getD 92 undef = .bool G := uval_at hp 35 92 (by kernel_rfl) rfl
            have h96 : a7.tmps.getD 96 undef = .bool G := uval_at hp 39 96 (by kernel_rfl) rfl
            unfold Oper.wp
            go_simp
            exact Stepped.at rfl hd (Below.refl _ _) (FU_mk (.val (.bool false)) rfl (by first | rfl | simp | exact congrArg _ hw))
          · intro a7 wx hb hd hs7 ho hp
            refine Or.inl ⟨rfl, ?_⟩
            have h90 : a7.tmps.getD 90 undef = .bool false := uval_at hp 33 90 (by kernel_rfl) rfl
            have h97 : a7.tmps.getD 97 undef = .bool false := uval_at hp 40 97 (by kernel_rfl) rfl
            unfold Oper.wp
            go_simp
            exact Stepped.at rfl hd (Below.refl _ _) (FU_mk (.val (.bool false)) rfl (by first | rfl | simp | exact congrArg _ hw))
        intro a7 wx hJ
        have h98 : a7.tmps.getD 98 undef = .bool false := FU_at (.val (.bool false)) rfl (hJ.at_end 41 98 (by kernel_rfl))
        have h1 := (hJ.outer 1 (by kernel_rfl)).trans rfl
        have h5 := (hJ.outer 5 (by kernel_rfl)).trans rfl
        obtain ⟨T7, D7⟩ := a7
        obtain rfl : D7 = [] := hJ.defers
        exact HJ.out T7 wx hJ.tmps h98 h1 h5 hJ.below
      by_cases hQ : Tm.depthL us < 12
      case neg =>
        have hQi : ¬ (Tm.depthL us : Int) < 12 := by omega
        rw [decide_eq_false hQ] at hVP
        obtain rfl : VA = false := by simpa using hVP
        obtain rfl : V = false := parts_no hVG
        clear hVG hVP
        refine wp_region_grow_or (by kernel_rfl) (FU [.val (.agg #[.int .u8 k, .int .i64 n, .string s, .slice a us.length cap]), .val (.int .i64 ((Tm.depthL us : Int) + 1)), .val (.int .i64 (Tm.depthL us)), .val (.int .i64 ((Tm.depthL us : Int) + 1)), .val (.bool false), .val (.bool false), .val (.agg #[.int .u8 k, .int .i64 n, .string s, .slice a us.length cap]), .val (.bool false), .val (.bool true), .val (.bool true), .val (.int .i64 (Tm.depthL us)), .val (.bool false), .val (.bool false), .val (.bool false), .val (undef), .val (undef), .val (.bool false), .val (.bool false), .val (.bool false), .val (.bool false), .val (.agg #[.int .u8 k, .int .i64 n, .string s, .slice a us.length cap]), .val (.bool false), .val (.bool false), .val (undef), .val (undef), .val (undef), .val (undef), .val (undef), .val (undef), .val (undef), .val (undef), .val (.bool false), .val (.bool false), .val (.bool false), .val (.agg #[.int .u8 k, .int .i64 n, .string s, .slice a us.length cap]), .val (.bool G), .val (.agg #[.int .u8 k, .int .i64 n, .string s, .slice a us.length cap]), .pred (fun v => ∃ (a : Option Addr) (c : Nat) (ss : List (List UInt8)), SVars (.mk k n s us) ss ∧ v = .slice a ss.length c), .pred (fun v => ∃ (ss : List (List UInt8)), SVars (.mk k n s us) ss ∧ v = .int .i64 ss.length), .val (.bool G), .val (.bool false), .val (.bool false)]) (FU_grow _) (by kernel_rfl) (steps_or ?_) ?_
        · refine ⟨?_, ?_, ?_, ?_, ?_, ?_, ?_, ?_, ?_, ?_, ?_, ?_, ?_, ?_, ?_, ?_, ?_, ?_, ?_, ?_, ?_, ?_, ?_, ?_, ?_, ?_, ?_, ?_, ?_, ?_, ?_, ?_, ?_, ?_, ?_, ?_, ?_, ?_, ?_, ?_, ?_, ?_, trivial⟩
          · intro a7 wx hb hd hs7 ho hp
            refine Or.inl ⟨rfl, ?_⟩
            have h1 : a7.tmps.getD 1 undef = _ := (ho 1 (by kernel_rfl)).trans rfl
            have hx := HasRow.grow r1 hb
            have x0 := cells_at hx 0 _ rfl
            have x1 := cells_at hx 1 _ rfl
            have x2 := cells_at hx 2 _ rfl
            have x3 := cells_at hx 3 _ rfl
            unfold Oper.wp
            go_simp
            exact Stepped.at rfl hd (Below.refl _ _) (FU_mk (.val (.agg #[.int .u8 k, .int .i64 n, .string s, .slice a us.length cap])) rfl rfl)
          · intro a7 wx hb hd hs7 ho hp
            refine Or.inl ⟨rfl, ?_⟩
            have h57 : a7.tmps.getD 57 undef = .agg #[.int .u8 k, .int .i64 n, .string s, .slice a us.length cap] := uval_at hp 0 57 (by kernel_rfl) rfl
            unfold Oper.wp
            go_simp
            refine (HCD.out wx hb).mono ?_
            rintro e w2 ⟨rfl, hb2⟩
            exact Stepped.at rfl hd hb2 (FU_mk (.val (.int .i64 ((Tm.depthL us : Int) + 1))) rfl rfl)
          · intro a7 wx hb hd hs7 ho hp
            refine Or.inl ⟨rfl, ?_⟩
            have h4 : a7.tmps.getD 4 undef = _ := (ho 4 (by kernel_rfl)).trans rfl
            unfold Oper.wp
            go_simp
            exact Stepped.at rfl hd (Below.refl _ _) (FU_mk (.val (.int .i64 (Tm.depthL us))) rfl (by first | rfl | simp | exact congrArg _ hw))
          · intro a7 wx hb hd hs7 ho hp
            refine Or.inl ⟨rfl, ?_⟩
            have h59 : a7.tmps.getD 59 undef = .int .i64 (Tm.depthL us) := uval_at hp 2 59 (by kernel_rfl) rfl
            unfold Oper.wp
            go_simp
            exact Stepped.at rfl hd (Below.refl _ _) (FU_mk (.val (.int .i64 ((Tm.depthL us : Int) + 1))) rfl (by first | rfl | simp | exact congrArg _ hw))
          · intro a7 wx hb hd hs7 ho hp
            refine Or.inl ⟨rfl, ?_⟩
            have h58 : a7.tmps.getD 58 undef = .int .i64 ((Tm.depthL us : Int) + 1) := uval_at hp 1 58 (by kernel_rfl) rfl
            have h60 : a7.tmps.getD 60 undef = .int .i64 ((Tm.depthL us : Int) + 1) := uval_at hp 3 60 (by kernel_rfl) rfl
            unfold Oper.wp
            go_simp
            exact Stepped.at rfl hd (Below.refl _ _) (FU_mk (.val (.bool false)) rfl (by first | rfl | simp | exact congrArg _ hw))
          · intro a7 wx hb hd hs7 ho hp
            refine Or.inl ⟨rfl, ?_⟩
            have h61 : a7.tmps.getD 61 undef = .bool false := uval_at hp 4 61 (by kernel_rfl) rfl
            unfold Oper.wp
            go_simp
            exact Stepped.at rfl hd (Below.refl _ _) (FU_mk (.val (.bool false)) rfl (by first | rfl | simp | exact congrArg _ hw))
          · intro a7 wx hb hd hs7 ho hp
            refine Or.inl ⟨wanted_yes rfl (yielded_at (k := 5) (d := 62) (by kernel_rfl) (uval_at hp 5 62 (by kernel_rfl) rfl)), ?_⟩
            have h1 : a7.tmps.getD 1 undef = _ := (ho 1 (by kernel_rfl)).trans rfl
            have hx := HasRow.grow r1 hb
            have x0 := cells_at hx 0 _ rfl
            have x1 := cells_at hx 1 _ rfl
            have x2 := cells_at hx 2 _ rfl
            have x3 := cells_at hx 3 _ rfl
            unfold Oper.wp
            go_simp
            exact Stepped.at rfl hd (Below.refl _ _) (FU_mk (.val (.agg #[.int .u8 k, .int .i64 n, .string s, .slice a us.length cap])) rfl rfl)
          · intro a7 wx hb hd hs7 ho hp
            refine Or.inl ⟨wanted_yes rfl (yielded_at (k := 5) (d := 62) (by kernel_rfl) (uval_at hp 5 62 (by kernel_rfl) rfl)), ?_⟩
            have h63 : a7.tmps.getD 63 undef = .agg #[.int .u8 k, .int .i64 n, .string s, .slice a us.length cap] := uval_at hp 6 63 (by kernel_rfl) rfl
            unfold Oper.wp
            go_simp
            refine (HCA.out wx hb).mono ?_
            rintro e w2 ⟨rfl, hb2⟩
            exact Stepped.at rfl hd hb2 (FU_mk (.val (.bool false)) rfl rfl)
          · intro a7 wx hb hd hs7 ho hp
            refine Or.inl ⟨wanted_yes rfl (yielded_at (k := 5) (d := 62) (by kernel_rfl) (uval_at hp 5 62 (by kernel_rfl) rfl)), ?_⟩
            have h3 : a7.tmps.getD 3 undef = _ := (ho 3 (by kernel_rfl)).trans rfl
            unfold Oper.wp
            go_simp
            exact Stepped.at rfl hd (Below.refl _ _) (FU_mk (.val (.bool true)) rfl (by first | rfl | simp | exact congrArg _ hw))
          · intro a7 wx hb hd hs7 ho hp
            refine Or.inl ⟨wanted_yes rfl (yielded_at (k := 5) (d := 62) (by kernel_rfl) (uval_at hp 5 62 (by kernel_rfl) rfl)), ?_⟩
            have h65 : a7.tmps.getD 65 undef = .bool true := uval_at hp 8 65 (by kernel_rfl) rfl
            unfold Oper.wp
            go_simp
            exact Stepped.at rfl hd (Below.refl _ _) (FU_mk (.val (.bool true)) rfl (by first | rfl | simp | exact congrArg _ hw))
          · intro a7 wx hb hd hs7 ho hp
            refine Or.inl ⟨wanted_yes rfl (yielded_at (k := 9) (d := 66) (by kernel_rfl) (uval_at hp 9 66 (by kernel_rfl) rfl)), ?_⟩
            have h4 : a7.tmps.getD 4 undef = _ := (ho 4 (by kernel_rfl)).trans rfl
            unfold Oper.wp
            go_simp
            exact Stepped.at rfl hd (Below.refl _ _) (FU_mk (.val (.int .i64 (Tm.depthL us))) rfl (by first | rfl | simp | exact congrArg _ hw))
          · intro a7 wx hb hd hs7 ho hp
            refine Or.inl ⟨wanted_yes rfl (yielded_at (k := 9) (d := 66) (by kernel_rfl) (uval_at hp 9 66 (by kernel_rfl) rfl)), ?_⟩
            have h67 : a7.tmps.getD 67 undef = .int .i64 (Tm.depthL us) := uval_at hp 10 67 (by kernel_rfl) rfl
            unfold Oper.wp
            go_simp
            exact Stepped.at rfl hd (Below.refl _ _) (FU_mk (.val (.bool false)) rfl (by first | rfl | simp | exact congrArg _ hw))
          · intro a7 wx hb hd hs7 ho hp
            refine Or.inl ⟨wanted_yes rfl (yielded_at (k := 5) (d := 62) (by kernel_rfl) (uval_at hp 5 62 (by kernel_rfl) rfl)), ?_⟩
            have h66 : a7.tmps.getD 66 undef = .bool true := uval_at hp 9 66 (by kernel_rfl) rfl
            have h68 : a7.tmps.getD 68 undef = .bool false := uval_at hp 11 68 (by kernel_rfl) rfl
            unfold Oper.wp
            go_simp
            exact Stepped.at rfl hd (Below.refl _ _) (FU_mk (.val (.bool false)) rfl (by first | rfl | simp | exact congrArg _ hw))
          · intro a7 wx hb hd hs7 ho hp
            refine Or.inl ⟨wanted_yes rfl (yielded_at (k := 5) (d := 62) (by kernel_rfl) (uval_at hp 5 62 (by kernel_rfl) rfl)), ?_⟩
            have h69 : a7.tmps.getD 69 undef = .bool false := uval_at hp 12 69 (by kernel_rfl) rfl
            unfold Oper.wp
            go_simp
            exact Stepped.at rfl hd (Below.refl _ _) (FU_mk (.val (.bool false)) rfl (by first | rfl | simp | exact congrArg _ hw))
          · intro a7 wx hb hd hs7 ho hp
            exact Or.inr ⟨wanted_no rfl (yielded_at (k := 13) (d := 70) (by kernel_rfl) (uval_at hp 13 70 (by kernel_rfl) rfl)), fun _ _ => FU_mk (.val undef) rfl rfl⟩
          · intro a7 wx hb hd hs7 ho hp
            exact Or.inr ⟨wanted_no rfl (yielded_at (k := 13) (d := 70) (by kernel_rfl) (uval_at hp 13 70 (by kernel_rfl) rfl)), fun _ _ => FU_mk (.val undef) rfl rfl⟩
          · intro a7 wx hb hd hs7 ho hp
            refine Or.inl ⟨wanted_yes rfl (yielded_at (k := 5) (d := 62) (by kernel_rfl) (uval_at hp 5 62 (by kernel_rfl) rfl)), ?_⟩
            have h70 : a7.tmps.getD 70 undef = .bool false := uval_at hp 13 70 (by kernel_rfl) rfl
            have h72 : a7.tmps.getD 72 undef = undef := uval_at hp 15 72 (by kernel_rfl) rfl
            unfold Oper.wp
            go_simp
            exact Stepped.at rfl hd (Below.refl _ _) (FU_mk (.val (.bool false)) rfl (by first | rfl | simp | exact congrArg _ hw))
          · intro a7 wx hb hd hs7 ho hp
            refine Or.inl ⟨wanted_yes rfl (yielded_at (k := 5) (d := 62) (by kernel_rfl) (uval_at hp 5 62 (by kernel_rfl) rfl)), ?_⟩
            have h64 : a7.tmps.getD 64 undef = .bool false := uval_at hp 7 64 (by kernel_rfl) rfl
            have h73 : a7.tmps.getD 73 undef = .bool false := uval_at hp 16 73 (by kernel_rfl) rfl
            unfold Oper.wp
            go_simp
            exact Stepped.at rfl hd (Below.refl _ _) (FU_mk (.val (.bool false)) rfl (by first | rfl | simp | exact congrArg _ hw))
          · intro a7 wx hb hd hs7 ho hp
            refine Or.inl ⟨rfl, ?_⟩
            have h62 : a7.tmps.getD 62 undef = .bool false := uval_at hp 5 62 (by kernel_rfl) rfl
            have h74 : a7.tmps.getD 74 undef = .bool false := uval_at hp 17 74 (by kernel_rfl) rfl
            unfold Oper.wp
            go_simp
            exact Stepped.at rfl hd (Below.refl _ _) (FU_mk (.val (.bool false)) rfl (by first | rfl | simp | exact congrArg _ hw))
          · intro a7 wx hb hd hs7 ho hp
            refine Or.inl ⟨rfl, ?_⟩
            have h75 : a7.tmps.getD 75 undef = .bool false := uval_at hp 18 75 (by kernel_rfl) rfl
            unfold Oper.wp
            go_simp
            exact Stepped.at rfl hd (Below.refl _ _) (FU_mk (.val (.bool false)) rfl (by first | rfl | simp | exact congrArg _ hw))
          · intro a7 wx hb hd hs7 ho hp
            refine Or.inl ⟨wanted_yes rfl (yielded_at (k := 19) (d := 76) (by kernel_rfl) (uval_at hp 19 76 (by kernel_rfl) rfl)), ?_⟩
            have h1 : a7.tmps.getD 1 undef = _ := (ho 1 (by kernel_rfl)).trans rfl
            have hx := HasRow.grow r1 hb
            have x0 := cells_at hx 0 _ rfl
            have x1 := cells_at hx 1 _ rfl
            have x2 := cells_at hx 2 _ rfl
            have x3 := cells_at hx 3 _ rfl
            unfold Oper.wp
            go_simp
            exact Stepped.at rfl hd (Below.refl _ _) (FU_mk (.val (.agg #[.int .u8 k, .int .i64 n, .string s, .slice a us.length cap])) rfl rfl)
          · intro a7 wx hb hd hs7 ho hp
            refine Or.inl ⟨wanted_yes rfl (yielded_at (k := 19) (d := 76) (by kernel_rfl) (uval_at hp 19 76 (by kernel_rfl) rfl)), ?_⟩
            have h77 : a7.tmps.getD 77 undef = .agg #[.int .u8 k, .int .i64 n, .string s, .slice a us.length cap] := uval_at hp 20 77 (by kernel_rfl) rfl
            unfold Oper.wp
            go_simp
            refine (HCL.out wx hb).mono ?_
            rintro e w2 ⟨rfl, hb2⟩
            exact Stepped.at rfl hd hb2 (FU_mk (.val (.bool false)) rfl rfl)
          · intro a7 wx hb hd hs7 ho hp
            refine Or.inl ⟨wanted_yes rfl (yielded_at (k := 19) (d := 76) (by kernel_rfl) (uval_at hp 19 76 (by kernel_rfl) rfl)), ?_⟩
            have h78 : a7.tmps.getD 78 undef = .bool false := uval_at hp 21 78 (by kernel_rfl) rfl
            unfold Oper.wp
            go_simp
            exact Stepped.at rfl hd (Below.refl _ _) (FU_mk (.val (.bool false)) rfl (by first | rfl | simp | exact congrArg _ hw))
          · intro a7 wx hb hd hs7 ho hp
            exact Or.inr ⟨wanted_no rfl (yielded_at (k := 22) (d := 79) (by kernel_rfl) (uval_at hp 22 79 (by kernel_rfl) rfl)), fun _ _ => FU_mk (.val undef) rfl rfl⟩
          · intro a7 wx hb hd hs7 ho hp
            exact Or.inr ⟨wanted_no rfl (yielded_at (k := 22) (d := 79) (by kernel_rfl) (uval_at hp 22 79 (by kernel_rfl) rfl)), fun _ _ => FU_mk (.val undef) rfl rfl⟩
          · intro a7 wx hb hd hs7 ho hp
            exact Or.inr ⟨wanted_no rfl (yielded_at (k := 22) (d := 79) (by kernel_rfl) (uval_at hp 22 79 (by kernel_rfl) rfl)), fun _ _ => FU_mk (.val undef) rfl rfl⟩
          · intro a7 wx hb hd hs7 ho hp
            exact Or.inr ⟨wanted_no rfl (yielded_at (k := 22) (d := 79) (by kernel_rfl) (uval_at hp 22 79 (by kernel_rfl) rfl)), fun _ _ => FU_mk (.val undef) rfl rfl⟩
          · intro a7 wx hb hd hs7 ho hp
            exact Or.inr ⟨wanted_none rfl (yielded_undef (k := 26) (d := 83) (by kernel_rfl) (uval_at hp 26 83 (by kernel_rfl) rfl)), fun _ _ => FU_mk (.val undef) rfl rfl⟩
          · intro a7 wx hb hd hs7 ho hp
            exact Or.inr ⟨wanted_none rfl (yielded_undef (k := 26) (d := 83) (by kernel_rfl) (uval_at hp 26 83 (by kernel_rfl) rfl)), fun _ _ => FU_mk (.val undef) rfl rfl⟩
          · intro a7 wx hb hd hs7 ho hp
            exact Or.inr ⟨wanted_none rfl (yielded_undef (k := 26) (d := 83) (by kernel_rfl) (uval_at hp 26 83 (by kernel_rfl) rfl)), fun _ _ => FU_mk (.val undef) rfl rfl⟩
          · intro a7 wx hb hd hs7 ho hp
            exact Or.inr ⟨wanted_no rfl (yielded_at (k := 22) (d := 79) (by kernel_rfl) (uval_at hp 22 79 (by kernel_rfl) rfl)), fun _ _ => FU_mk (.val undef) rfl rfl⟩
          · intro a7 wx hb hd hs7 ho hp
            refine Or.inl ⟨wanted_yes rfl (yielded_at (k := 19) (d := 76) (by kernel_rfl) (uval_at hp 19 76 (by kernel_rfl) rfl)), ?_⟩
            have h79 : a7.tmps.getD 79 undef = .bool false := uval_at hp 22 79 (by kernel_rfl) rfl
            have h87 : a7.tmps.getD 87 undef = undef := uval_at hp 30 87 (by kernel_rfl) rfl
            unfold Oper.wp
            go_simp
            exact Stepped.at rfl hd (Below.refl _ _) (FU_mk (.val (.bool false)) rfl (by first | rfl | simp | exact congrArg _ hw))
          · intro a7 wx hb hd hs7 ho hp
            refine Or.inl ⟨rfl, ?_⟩
            have h76 : a7.tmps.getD 76 undef = .bool false := uval_at hp 19 76 (by kernel_rfl) rfl
            have h88 : a7.tmps.getD 88 undef = .bool false := uval_at hp 31 88 (by kernel_rfl) rfl
            unfold Oper.wp
            go_simp
            exact Stepped.at rfl hd (Below.refl _ _) (FU_mk (.val (.bool false)) rfl (by first | rfl | simp | exact congrArg _ hw))
          · intro a7 wx hb hd hs7 ho hp
            refine Or.inl ⟨rfl, ?_⟩
            have h89 : a7.tmps.getD 89 undef = .bool false := uval_at hp 32 89 (by kernel_rfl) rfl
            unfold Oper.wp
            go_simp
            exact Stepped.at rfl hd (Below.refl _ _) (FU_mk (.val (.bool false)) rfl (by first | rfl | simp | exact congrArg _ hw))
          · intro a7 wx hb hd hs7 ho hp
            refine Or.inl ⟨wanted_yes rfl (yielded_at (k := 33) (d := 90) (by kernel_rfl) (uval_at hp 33 90 (by kernel_rfl) rfl)), ?_⟩
            have h1 : a7.tmps.getD 1 undef = _ := (ho 1 (by kernel_rfl)).trans rfl
            have hx := HasRow.grow r1 hb
            have x0 := cells_at hx 0 _ rfl
            have x1 := cells_at hx 1 _ rfl
            have x2 := cells_at hx 2 _ rfl
            have x3 := cells_at hx 3 _ rfl
            unfold Oper.wp
            go_simp
            exact Stepped.at rfl hd (Below.refl _ _) (FU_mk (.val (.agg #[.int .u8 k, .int .i64 n, .string s, .slice a us.length cap])) rfl rfl)
          · intro a7 wx hb hd hs7 ho hp
            refine Or.inl ⟨wanted_yes rfl (yielded_at (k := 33) (d := 90) (by kernel_rfl) (uval_at hp 33 90 (by kernel_rfl) rfl)), ?_⟩
            have h91 : a7.tmps.getD 91 undef = .agg #[.int .u8 k, .int .i64 n, .string s, .slice a us.length cap] := uval_at hp 34 91 (by kernel_rfl) rfl
            unfold Oper.wp
            go_simp
            refine (HCG.out wx hb).mono ?_
            rintro e w2 ⟨rfl, hb2⟩
            exact Stepped.at rfl hd hb2 (FU_mk (.val (.bool G)) rfl rfl)
          · intro a7 wx hb hd hs7 ho hp
            refine Or.inl ⟨wanted_yes rfl (yielded_at (k := 33) (d := 90) (by kernel_rfl) (uval_at hp 33 90 (by kernel_rfl) rfl)), ?_⟩
            have h1 : a7.tmps.getD 1 undef = _ := (ho 1 (by kernel_rfl)).trans rfl
            have hx := HasRow.grow r1 hb
            have x0 := cells_at hx 0 _ rfl
            have x1 := cells_at hx 1 _ rfl
            have x2 := cells_at hx 2 _ rfl
            have x3 := cells_at hx 3 _ rfl
            unfold Oper.wp
            go_simp
            exact Stepped.at rfl hd (Below.refl _ _) (FU_mk (.val (.agg #[.int .u8 k, .int .i64 n, .string s, .slice a us.length cap])) rfl rfl)
          · intro a7 wx hb hd hs7 ho hp
            refine Or.inl ⟨wanted_yes rfl (yielded_at (k := 33) (d := 90) (by kernel_rfl) (uval_at hp 33 90 (by kernel_rfl) rfl)), ?_⟩
            have h93 : a7.tmps.getD 93 undef = .agg #[.int .u8 k, .int .i64 n, .string s, .slice a us.length cap] := uval_at hp 36 93 (by kernel_rfl) rfl
            unfold Oper.wp
            go_simp
            refine (HCV.out wx hb).mono ?_
            rintro e w2 ⟨v, ss, rfl, hss, hoss, hb2⟩
            exact Stepped.at rfl hd hb2 (FU_mk (.pred (fun v => ∃ (a : Option Addr) (c : Nat) (ss : List (List UInt8)), SVars (.mk k n s us) ss ∧ v = .slice a ss.length c)) rfl (vars_pred hss hoss))
          · intro a7 wx hb hd hs7 ho hp
            refine Or.inl ⟨wanted_yes rfl (yielded_at (k := 33) (d := 90) (by kernel_rfl) (uval_at hp 33 90 (by kernel_rfl) rfl)), ?_⟩
            obtain ⟨aa, cc, ss, hss, h94⟩ := upred_at hp 37 94 (p := fun v => ∃ (a : Option Addr) (c : Nat) (ss : List (List UInt8)), SVars (.mk k n s us) ss ∧ v = .slice a ss.length c) (by kernel_rfl) rfl
            unfold Oper.wp
            go_simp
            exact Stepped.at rfl hd (Below.refl _ _) (FU_mk (.pred (fun v => ∃ (ss : List (List UInt8)), SVars (.mk k n s us) ss ∧ v = .int .i64 ss.length)) rfl ⟨ss, hss, rfl⟩)
          · intro a7 wx hb hd hs7 ho hp
            refine Or.inl ⟨wanted_yes rfl (yielded_at (k := 33) (d := 90) (by kernel_rfl) (uval_at hp 33 90 (by kernel_rfl) rfl)), ?_⟩
            obtain ⟨ss, hss, h95⟩ := upred_at hp 38 95 (p := fun v => ∃ (ss : List (List UInt8)), SVars (.mk k n s us) ss ∧ v = .int .i64 ss.length) (by kernel_rfl) rfl
            have hgv := HGV.out ss hss
            unfold Oper.wp
            go_simp
            exact Stepped.at rfl hd (Below.refl _ _) (FU_mk (.val (.bool G)) rfl (by first | rfl | exact congrArg Value.bool hgv))
          · intro a7 wx hb hd hs7 ho hp
            refine Or.inl ⟨wanted_yes rfl (yielded_at (k := 33) (d := 90) (by kernel_rfl) (uval_at hp 33 90 (by kernel_rfl) rfl)), ?_⟩
            have h92 : a7.tmps.getD 92 undef = .bool G := uval_at hp 35 92 (by kernel_rfl) rfl
            have h96 : a7.tmps.getD 96 undef = .bool G := uval_at hp 39 96 (by kernel_rfl) rfl
            unfold Oper.wp
            go_simp
            exact Stepped.at rfl hd (Below.refl _ _) (FU_mk (.val (.bool false)) rfl (by first | rfl | simp | exact congrArg _ hw))
          · intro a7 wx hb hd hs7 ho hp
            refine Or.inl ⟨rfl, ?_⟩
            have h90 : a7.tmps.getD 90 undef = .bool false := uval_at hp 33 90 (by kernel_rfl) rfl
            have h97 : a7.tmps.getD 97 undef = .bool false := uval_at hp 40 97 (by kernel_rfl) rfl
            unfold Oper.wp
            go_simp
            exact Stepped.at rfl hd (Below.refl _ _) (FU_mk (.val (.bool false)) rfl (by first | rfl | simp | exact congrArg _ hw))
        intro a7 wx hJ
        have h98 : a7.tmps.getD 98 undef = .bool false := FU_at (.val (.bool false)) rfl (hJ.at_end 41 98 (by kernel_rfl))
        have h1 := (hJ.outer 1 (by kernel_rfl)).trans rfl
        have h5 := (hJ.outer 5 (by kernel_rfl)).trans rfl
        obtain ⟨T7, D7⟩ := a7
        obtain rfl : D7 = [] := hJ.defers
        exact HJ.out T7 wx hJ.tmps h98 h1 h5 hJ.below
      have hQi : (Tm.depthL us : Int) < 12 := by omega
      rw [decide_eq_true hQ] at hVP
      obtain rfl : VA = VF := by simpa using hVP
      cases V
      · clear hVG hVP
        refine wp_region_grow_or (by kernel_rfl) (FU [.val (.agg #[.int .u8 k, .int .i64 n, .string s, .slice a us.length cap]), .val (.int .i64 ((Tm.depthL us : Int) + 1)), .val (.int .i64 (Tm.depthL us)), .val (.int .i64 ((Tm.depthL us : Int) + 1)), .val (.bool false), .val (.bool false), .val (.agg #[.int .u8 k, .int .i64 n, .string s, .slice a us.length cap]), .val (.bool VA), .val (.bool true), .val (.bool true), .val (.int .i64 (Tm.depthL us)), .val (.bool true), .val (.bool true), .val (.bool true), .val (.agg #[.int .u8 k, .int .i64 n, .string s, vF]), .val (.bool VA), .val (.bool VA), .val (.bool false), .val (.bool false), .val (.bool false), .val (.agg #[.int .u8 k, .int .i64 n, .string s, .slice a us.length cap]), .val (.bool false), .val (.bool false), .val (undef), .val (undef), .val (undef), .val (undef), .val (undef), .val (undef), .val (undef), .val (undef), .val (.bool false), .val (.bool false), .val (.bool false), .val (.agg #[.int .u8 k, .int .i64 n, .string s, .slice a us.length cap]), .val (.bool G), .val (.agg #[.int .u8 k, .int .i64 n, .string s, .slice a us.length cap]), .pred (fun v => ∃ (a : Option Addr) (c : Nat) (ss : List (List UInt8)), SVars (.mk k n s us) ss ∧ v = .slice a ss.length c), .pred (fun v => ∃ (ss : List (List UInt8)), SVars (.mk k n s us) ss ∧ v = .int .i64 ss.length), .val (.bool G), .val (.bool false), .val (.bool false)]) (FU_grow _) (by kernel_rfl) (steps_or ?_) ?_
        · refine ⟨?_, ?_, ?_, ?_, ?_, ?_, ?_, ?_, ?_, ?_, ?_, ?_, ?_, ?_, ?_, ?_, ?_, ?_, ?_, ?_, ?_, ?_, ?_, ?_, ?_, ?_, ?_, ?_, ?_, ?_, ?_, ?_, ?_, ?_, ?_, ?_, ?_, ?_, ?_, ?_, ?_, ?_, trivial⟩
          · intro a7 wx hb hd hs7 ho hp
            refine Or.inl ⟨rfl, ?_⟩
            have h1 : a7.tmps.getD 1 undef = _ := (ho 1 (by kernel_rfl)).trans rfl
            have hx := HasRow.grow r1 hb
            have x0 := cells_at hx 0 _ rfl
            have x1 := cells_at hx 1 _ rfl
            have x2 := cells_at hx 2 _ rfl
            have x3 := cells_at hx 3 _ rfl
            unfold Oper.wp
            go_simp
            exact Stepped.at rfl hd (Below.refl _ _) (FU_mk (.val (.agg #[.int .u8 k, .int .i64 n, .string s, .slice a us.length cap])) rfl rfl)
          · intro a7 wx hb hd hs7 ho hp
            refine Or.inl ⟨rfl, ?_⟩
            have h57 : a7.tmps.getD 57 undef = .agg #[.int .u8 k, .int .i64 n, .string s, .slice a us.length cap] := uval_at hp 0 57 (by kernel_rfl) rfl
            unfold Oper.wp
            go_simp
            refine (HCD.out wx hb).mono ?_
            rintro e w2 ⟨rfl, hb2⟩
            exact Stepped.at rfl hd hb2 (FU_mk (.val (.int .i64 ((Tm.depthL us : Int) + 1))) rfl rfl)
          · intro a7 wx hb hd hs7 ho hp
            refine Or.inl ⟨rfl, ?_⟩
            have h4 : a7.tmps.getD 4 undef = _ := (ho 4 (by kernel_rfl)).trans rfl
            unfold Oper.wp
            go_simp
            exact Stepped.at rfl hd (Below.refl _ _) (FU_mk (.val (.int .i64 (Tm.depthL us))) rfl (by first | rfl | simp | exact congrArg _ hw))
          · intro a7 wx hb hd hs7 ho hp
            refine Or.inl ⟨rfl, ?_⟩
            have h59 : a7.tmps.getD 59 undef = .int .i64 (Tm.depthL us) := uval_at hp 2 59 (by kernel_rfl) rfl
            unfold Oper.wp
            go_simp
            exact Stepped.at rfl hd (Below.refl _ _) (FU_mk (.val (.int .i64 ((Tm.depthL us : Int) + 1))) rfl (by first | rfl | simp | exact congrArg _ hw))
          · intro a7 wx hb hd hs7 ho hp
            refine Or.inl ⟨rfl, ?_⟩
            have h58 : a7.tmps.getD 58 undef = .int .i64 ((Tm.depthL us : Int) + 1) := uval_at hp 1 58 (by kernel_rfl) rfl
            have h60 : a7.tmps.getD 60 undef = .int .i64 ((Tm.depthL us : Int) + 1) := uval_at hp 3 60 (by kernel_rfl) rfl
            unfold Oper.wp
            go_simp
            exact Stepped.at rfl hd (Below.refl _ _) (FU_mk (.val (.bool false)) rfl (by first | rfl | simp | exact congrArg _ hw))
          · intro a7 wx hb hd hs7 ho hp
            refine Or.inl ⟨rfl, ?_⟩
            have h61 : a7.tmps.getD 61 undef = .bool false := uval_at hp 4 61 (by kernel_rfl) rfl
            unfold Oper.wp
            go_simp
            exact Stepped.at rfl hd (Below.refl _ _) (FU_mk (.val (.bool false)) rfl (by first | rfl | simp | exact congrArg _ hw))
          · intro a7 wx hb hd hs7 ho hp
            refine Or.inl ⟨wanted_yes rfl (yielded_at (k := 5) (d := 62) (by kernel_rfl) (uval_at hp 5 62 (by kernel_rfl) rfl)), ?_⟩
            have h1 : a7.tmps.getD 1 undef = _ := (ho 1 (by kernel_rfl)).trans rfl
            have hx := HasRow.grow r1 hb
            have x0 := cells_at hx 0 _ rfl
            have x1 := cells_at hx 1 _ rfl
            have x2 := cells_at hx 2 _ rfl
            have x3 := cells_at hx 3 _ rfl
            unfold Oper.wp
            go_simp
            exact Stepped.at rfl hd (Below.refl _ _) (FU_mk (.val (.agg #[.int .u8 k, .int .i64 n, .string s, .slice a us.length cap])) rfl rfl)
          · intro a7 wx hb hd hs7 ho hp
            refine Or.inl ⟨wanted_yes rfl (yielded_at (k := 5) (d := 62) (by kernel_rfl) (uval_at hp 5 62 (by kernel_rfl) rfl)), ?_⟩
            have h63 : a7.tmps.getD 63 undef = .agg #[.int .u8 k, .int .i64 n, .string s, .slice a us.length cap] := uval_at hp 6 63 (by kernel_rfl) rfl
            unfold Oper.wp
            go_simp
            refine (HCA.out wx hb).mono ?_
            rintro e w2 ⟨rfl, hb2⟩
            exact Stepped.at rfl hd hb2 (FU_mk (.val (.bool VA)) rfl rfl)
          · intro a7 wx hb hd hs7 ho hp
            refine Or.inl ⟨wanted_yes rfl (yielded_at (k := 5) (d := 62) (by kernel_rfl) (uval_at hp 5 62 (by kernel_rfl) rfl)), ?_⟩
            have h3 : a7.tmps.getD 3 undef = _ := (ho 3 (by kernel_rfl)).trans rfl
            unfold Oper.wp
            go_simp
            exact Stepped.at rfl hd (Below.refl _ _) (FU_mk (.val (.bool true)) rfl (by first | rfl | simp | exact congrArg _ hw))
          · intro a7 wx hb hd hs7 ho hp
            refine Or.inl ⟨wanted_yes rfl (yielded_at (k := 5) (d := 62) (by kernel_rfl) (uval_at hp 5 62 (by kernel_rfl) rfl)), ?_⟩
            have h65 : a7.tmps.getD 65 undef = .bool true := uval_at hp 8 65 (by kernel_rfl) rfl
            unfold Oper.wp
            go_simp
            exact Stepped.at rfl hd (Below.refl _ _) (FU_mk (.val (.bool true)) rfl (by first | rfl | simp | exact congrArg _ hw))
          · intro a7 wx hb hd hs7 ho hp
            refine Or.inl ⟨wanted_yes rfl (yielded_at (k := 9) (d := 66) (by kernel_rfl) (uval_at hp 9 66 (by kernel_rfl) rfl)), ?_⟩
            have h4 : a7.tmps.getD 4 undef = _ := (ho 4 (by kernel_rfl)).trans rfl
            unfold Oper.wp
            go_simp
            exact Stepped.at rfl hd (Below.refl _ _) (FU_mk (.val (.int .i64 (Tm.depthL us))) rfl (by first | rfl | simp | exact congrArg _ hw))
          · intro a7 wx hb hd hs7 ho hp
            refine Or.inl ⟨wanted_yes rfl (yielded_at (k := 9) (d := 66) (by kernel_rfl) (uval_at hp 9 66 (by kernel_rfl) rfl)), ?_⟩
            have h67 : a7.tmps.getD 67 undef = .int .i64 (Tm.depthL us) := uval_at hp 10 67 (by kernel_rfl) rfl
            unfold Oper.wp
            go_simp
            exact Stepped.at rfl hd (Below.refl _ _) (FU_mk (.val (.bool true)) rfl (by first | rfl | simp | exact congrArg _ hw))
          · intro a7 wx hb hd hs7 ho hp
            refine Or.inl ⟨wanted_yes rfl (yielded_at (k := 5) (d := 62) (by kernel_rfl) (uval_at hp 5 62 (by kernel_rfl) rfl)), ?_⟩
            have h66 : a7.tmps.getD 66 undef = .bool true := uval_at hp 9 66 (by kernel_rfl) rfl
            have h68 : a7.tmps.getD 68 undef = .bool true := uval_at hp 11 68 (by kernel_rfl) rfl
            unfold Oper.wp
            go_simp
            exact Stepped.at rfl hd (Below.refl _ _) (FU_mk (.val (.bool true)) rfl (by first | rfl | simp | exact congrArg _ hw))
          · intro a7 wx hb hd hs7 ho hp
            refine Or.inl ⟨wanted_yes rfl (yielded_at (k := 5) (d := 62) (by kernel_rfl) (uval_at hp 5 62 (by kernel_rfl) rfl)), ?_⟩
            have h69 : a7.tmps.getD 69 undef = .bool true := uval_at hp 12 69 (by kernel_rfl) rfl
            unfold Oper.wp
            go_simp
            exact Stepped.at rfl hd (Below.refl _ _) (FU_mk (.val (.bool true)) rfl (by first | rfl | simp | exact congrArg _ hw))
          · intro a7 wx hb hd hs7 ho hp
            refine Or.inl ⟨wanted_yes rfl (yielded_at (k := 13) (d := 70) (by kernel_rfl) (uval_at hp 13 70 (by kernel_rfl) rfl)), ?_⟩
            have h6 : a7.tmps.getD 6 undef = _ := (ho 6 (by kernel_rfl)).trans rfl
            have hx := HasRow.grow rF hb
            have x0 := cells_at hx 0 _ rfl
            have x1 := cells_at hx 1 _ rfl
            have x2 := cells_at hx 2 _ rfl
            have x3 := cells_at hx 3 _ rfl
            unfold Oper.wp
            go_simp
            exact Stepped.at rfl hd (Below.refl _ _) (FU_mk (.val (.agg #[.int .u8 k, .int .i64 n, .string s, vF])) rfl rfl)
          · intro a7 wx hb hd hs7 ho hp
            refine Or.inl ⟨wanted_yes rfl (yielded_at (k := 13) (d := 70) (by kernel_rfl) (uval_at hp 13 70 (by kernel_rfl) rfl)), ?_⟩
            have h71 : a7.tmps.getD 71 undef = .agg #[.int .u8 k, .int .i64 n, .string s, vF] := uval_at hp 14 71 (by kernel_rfl) rfl
            unfold Oper.wp
            go_simp
            refine (HCF.out wx hb).mono ?_
            rintro e w2 ⟨rfl, hb2⟩
            exact Stepped.at rfl hd hb2 (FU_mk (.val (.bool VA)) rfl rfl)
          · intro a7 wx hb hd hs7 ho hp
            refine Or.inl ⟨wanted_yes rfl (yielded_at (k := 5) (d := 62) (by kernel_rfl) (uval_at hp 5 62 (by kernel_rfl) rfl)), ?_⟩
            have h70 : a7.tmps.getD 70 undef = .bool true := uval_at hp 13 70 (by kernel_rfl) rfl
            have h72 : a7.tmps.getD 72 undef = .bool VA := uval_at hp 15 72 (by kernel_rfl) rfl
            unfold Oper.wp
            go_simp
            exact Stepped.at rfl hd (Below.refl _ _) (FU_mk (.val (.bool VA)) rfl (by first | rfl | simp | exact congrArg _ hw))
          · intro a7 wx hb hd hs7 ho hp
            refine Or.inl ⟨wanted_yes rfl (yielded_at (k := 5) (d := 62) (by kernel_rfl) (uval_at hp 5 62 (by kernel_rfl) rfl)), ?_⟩
            have h64 : a7.tmps.getD 64 undef = .bool VA := uval_at hp 7 64 (by kernel_rfl) rfl
            have h73 : a7.tmps.getD 73 undef = .bool VA := uval_at hp 16 73 (by kernel_rfl) rfl
            unfold Oper.wp
            go_simp
            exact Stepped.at rfl hd (Below.refl _ _) (FU_mk (.val (.bool false)) rfl (by first | rfl | simp | exact congrArg _ hw))
          · intro a7 wx hb hd hs7 ho hp
            refine Or.inl ⟨rfl, ?_⟩
            have h62 : a7.tmps.getD 62 undef = .bool false := uval_at hp 5 62 (by kernel_rfl) rfl
            have h74 : a7.tmps.getD 74 undef = .bool false := uval_at hp 17 74 (by kernel_rfl) rfl
            unfold Oper.wp
            go_simp
            exact Stepped.at rfl hd (Below.refl _ _) (FU_mk (.val (.bool false)) rfl (by first | rfl | simp | exact congrArg _ hw))
          · intro a7 wx hb hd hs7 ho hp
            refine Or.inl ⟨rfl, ?_⟩
            have h75 : a7.tmps.getD 75 undef = .bool false := uval_at hp 18 75 (by kernel_rfl) rfl
            unfold Oper.wp
            go_simp
            exact Stepped.at rfl hd (Below.refl _ _) (FU_mk (.val (.bool false)) rfl (by first | rfl | simp | exact congrArg _ hw))
          · intro a7 wx hb hd hs7 ho hp
            refine Or.inl ⟨wanted_yes rfl (yielded_at (k := 19) (d := 76) (by kernel_rfl) (uval_at hp 19 76 (by kernel_rfl) rfl)), ?_⟩
            have h1 : a7.tmps.getD 1 undef = _ := (ho 1 (by kernel_rfl)).trans rfl
            have hx := HasRow.grow r1 hb
            have x0 := cells_at hx 0 _ rfl
            have x1 := cells_at hx 1 _ rfl
            have x2 := cells_at hx 2 _ rfl
            have x3 := cells_at hx 3 _ rfl
            unfold Oper.wp
            go_simp
            exact Stepped.at rfl hd (Below.refl _ _) (FU_mk (.val (.agg #[.int .u8 k, .int .i64 n, .string s, .slice a us.length cap])) rfl rfl)
          · intro a7 wx hb hd hs7 ho hp
            refine Or.inl ⟨wanted_yes rfl (yielded_at (k := 19) (d := 76) (by kernel_rfl) (uval_at hp 19 76 (by kernel_rfl) rfl)), ?_⟩
            have h77 : a7.tmps.getD 77 undef = .agg #[.int .u8 k, .int .i64 n, .string s, .slice a us.length cap] := uval_at hp 20 77 (by kernel_rfl) rfl
            unfold Oper.wp
            go_simp
            refine (HCL.out wx hb).mono ?_
            rintro e w2 ⟨rfl, hb2⟩
            exact Stepped.at rfl hd hb2 (FU_mk (.val (.bool false)) rfl rfl)
          · intro a7 wx hb hd hs7 ho hp
            refine Or.inl ⟨wanted_yes rfl (yielded_at (k := 19) (d := 76) (by kernel_rfl) (uval_at hp 19 76 (by kernel_rfl) rfl)), ?_⟩
            have h78 : a7.tmps.getD 78 undef = .bool false := uval_at hp 21 78 (by kernel_rfl) rfl
            unfold Oper.wp
            go_simp
            exact Stepped.at rfl hd (Below.refl _ _) (FU_mk (.val (.bool false)) rfl (by first | rfl | simp | exact congrArg _ hw))
          · intro a7 wx hb hd hs7 ho hp
            exact Or.inr ⟨wanted_no rfl (yielded_at (k := 22) (d := 79) (by kernel_rfl) (uval_at hp 22 79 (by kernel_rfl) rfl)), fun _ _ => FU_mk (.val undef) rfl rfl⟩
          · intro a7 wx hb hd hs7 ho hp
            exact Or.inr ⟨wanted_no rfl (yielded_at (k := 22) (d := 79) (by kernel_rfl) (uval_at hp 22 79 (by kernel_rfl) rfl)), fun _ _ => FU_mk (.val undef) rfl rfl⟩
          · intro a7 wx hb hd hs7 ho hp
            exact Or.inr ⟨wanted_no rfl (yielded_at (k := 22) (d := 79) (by kernel_rfl) (uval_at hp 22 79 (by kernel_rfl) rfl)), fun _ _ => FU_mk (.val undef) rfl rfl⟩
          · intro a7 wx hb hd hs7 ho hp
            exact Or.inr ⟨wanted_no rfl (yielded_at (k := 22) (d := 79) (by kernel_rfl) (uval_at hp 22 79 (by kernel_rfl) rfl)), fun _ _ => FU_mk (.val undef) rfl rfl⟩
          · intro a7 wx hb hd hs7 ho hp
            exact Or.inr ⟨wanted_none rfl (yielded_undef (k := 26) (d := 83) (by kernel_rfl) (uval_at hp 26 83 (by kernel_rfl) rfl)), fun _ _ => FU_mk (.val undef) rfl rfl⟩
          · intro a7 wx hb hd hs7 ho hp
            exact Or.inr ⟨wanted_none rfl (yielded_undef (k := 26) (d := 83) (by kernel_rfl) (uval_at hp 26 83 (by kernel_rfl) rfl)), fun _ _ => FU_mk (.val undef) rfl rfl⟩
          · intro a7 wx hb hd hs7 ho hp
            exact Or.inr ⟨wanted_none rfl (yielded_undef (k := 26) (d := 83) (by kernel_rfl) (uval_at hp 26 83 (by kernel_rfl) rfl)), fun _ _ => FU_mk (.val undef) rfl rfl⟩
          · intro a7 wx hb hd hs7 ho hp
            exact Or.inr ⟨wanted_no rfl (yielded_at (k := 22) (d := 79) (by kernel_rfl) (uval_at hp 22 79 (by kernel_rfl) rfl)), fun _ _ => FU_mk (.val undef) rfl rfl⟩
          · intro a7 wx hb hd hs7 ho hp
            refine Or.inl ⟨wanted_yes rfl (yielded_at (k := 19) (d := 76) (by kernel_rfl) (uval_at hp 19 76 (by kernel_rfl) rfl)), ?_⟩
            have h79 : a7.tmps.getD 79 undef = .bool false := uval_at hp 22 79 (by kernel_rfl) rfl
            have h87 : a7.tmps.getD 87 undef = undef := uval_at hp 30 87 (by kernel_rfl) rfl
            unfold Oper.wp
            go_simp
            exact Stepped.at rfl hd (Below.refl _ _) (FU_mk (.val (.bool false)) rfl (by first | rfl | simp | exact congrArg _ hw))
          · intro a7 wx hb hd hs7 ho hp
            refine Or.inl ⟨rfl, ?_⟩
            have h76 : a7.tmps.getD 76 undef = .bool false := uval_at hp 19 76 (by kernel_rfl) rfl
            have h88 : a7.tmps.getD 88 undef = .bool false := uval_at hp 31 88 (by kernel_rfl) rfl
            unfold Oper.wp
            go_simp
            exact Stepped.at rfl hd (Below.refl _ _) (FU_mk (.val (.bool false)) rfl (by first | rfl | simp | exact congrArg _ hw))
          · intro a7 wx hb hd hs7 ho hp
            refine Or.inl ⟨rfl, ?_⟩
            have h89 : a7.tmps.getD 89 undef = .bool false := uval_at hp 32 89 (by kernel_rfl) rfl
            unfold Oper.wp
            go_simp
            exact Stepped.at rfl hd (Below.refl _ _) (FU_mk (.val (.bool false)) rfl (by first | rfl | simp | exact congrArg _ hw))
          · intro a7 wx hb hd hs7 ho hp
            refine Or.inl ⟨wanted_yes rfl (yielded_at (k := 33) (d := 90) (by kernel_rfl) (uval_at hp 33 90 (by kernel_rfl) rfl)), ?_⟩
            have h1 : a7.tmps.getD 1 undef = _ := (ho 1 (by kernel_rfl)).trans rfl
            have hx := HasRow.grow r1 hb
            have x0 := cells_at hx 0 _ rfl
            have x1 := cells_at hx 1 _ rfl
            have x2 := cells_at hx 2 _ rfl
            have x3 := cells_at hx 3 _ rfl
            unfold Oper.wp
            go_simp
            exact Stepped.at rfl hd (Below.refl _ _) (FU_mk (.val (.agg #[.int .u8 k, .int .i64 n, .string s, .slice a us.length cap])) rfl rfl)
          · intro a7 wx hb hd hs7 ho hp
            refine Or.inl ⟨wanted_yes rfl (yielded_at (k := 33) (d := 90) (by kernel_rfl) (uval_at hp 33 90 (by kernel_rfl) rfl)), ?_⟩
            have h91 : a7.tmps.getD 91 undef = .agg #[.int .u8 k, .int .i64 n, .string s, .slice a us.length cap] := uval_at hp 34 91 (by kernel_rfl) rfl
            unfold Oper.wp
            go_simp
            refine (HCG.out wx hb).mono ?_
            rintro e w2 ⟨rfl, hb2⟩
            exact Stepped.at rfl hd hb2 (FU_mk (.val (.bool G)) rfl rfl)
          · intro a7 wx hb hd hs7 ho hp
            refine Or.inl ⟨wanted_yes rfl (yielded_at (k := 33) (d := 90) (by kernel_rfl) (uval_at hp 33 90 (by kernel_rfl) rfl)), ?_⟩
            have h1 : a7.tmps.getD 1 undef = _ := (ho 1 (by kernel_rfl)).trans rfl
            have hx := HasRow.grow r1 hb
            have x0 := cells_at hx 0 _ rfl
            have x1 := cells_at hx 1 _ rfl
            have x2 := cells_at hx 2 _ rfl
            have x3 := cells_at hx 3 _ rfl
            unfold Oper.wp
            go_simp
            exact Stepped.at rfl hd (Below.refl _ _) (FU_mk (.val (.agg #[.int .u8 k, .int .i64 n, .string s, .slice a us.length cap])) rfl rfl)
          · intro a7 wx hb hd hs7 ho hp
            refine Or.inl ⟨wanted_yes rfl (yielded_at (k := 33) (d := 90) (by kernel_rfl) (uval_at hp 33 90 (by kernel_rfl) rfl)), ?_⟩
            have h93 : a7.tmps.getD 93 undef = .agg #[.int .u8 k, .int .i64 n, .string s, .slice a us.length cap] := uval_at hp 36 93 (by kernel_rfl) rfl
            unfold Oper.wp
            go_simp
            refine (HCV.out wx hb).mono ?_
            rintro e w2 ⟨v, ss, rfl, hss, hoss, hb2⟩
            exact Stepped.at rfl hd hb2 (FU_mk (.pred (fun v => ∃ (a : Option Addr) (c : Nat) (ss : List (List UInt8)), SVars (.mk k n s us) ss ∧ v = .slice a ss.length c)) rfl (vars_pred hss hoss))
          · intro a7 wx hb hd hs7 ho hp
            refine Or.inl ⟨wanted_yes rfl (yielded_at (k := 33) (d := 90) (by kernel_rfl) (uval_at hp 33 90 (by kernel_rfl) rfl)), ?_⟩
            obtain ⟨aa, cc, ss, hss, h94⟩ := upred_at hp 37 94 (p := fun v => ∃ (a : Option Addr) (c : Nat) (ss : List (List UInt8)), SVars (.mk k n s us) ss ∧ v = .slice a ss.length c) (by kernel_rfl) rfl
            unfold Oper.wp
            go_simp
            exact Stepped.at rfl hd (Below.refl _ _) (FU_mk (.pred (fun v => ∃ (ss : List (List UInt8)), SVars (.mk k n s us) ss ∧ v = .int .i64 ss.length)) rfl ⟨ss, hss, rfl⟩)
          · intro a7 wx hb hd hs7 ho hp
            refine Or.inl ⟨wanted_yes rfl (yielded_at (k := 33) (d := 90) (by kernel_rfl) (uval_at hp 33 90 (by kernel_rfl) rfl)), ?_⟩
            obtain ⟨ss, hss, h95⟩ := upred_at hp 38 95 (p := fun v => ∃ (ss : List (List UInt8)), SVars (.mk k n s us) ss ∧ v = .int .i64 ss.length) (by kernel_rfl) rfl
            have hgv := HGV.out ss hss
            unfold Oper.wp
            go_simp
            exact Stepped.at rfl hd (Below.refl _ _) (FU_mk (.val (.bool G)) rfl (by first | rfl | exact congrArg Value.bool hgv))
          · intro a7 wx hb hd hs7 ho hp
            refine Or.inl ⟨wanted_yes rfl (yielded_at (k := 33) (d := 90) (by kernel_rfl) (uval_at hp 33 90 (by kernel_rfl) rfl)), ?_⟩
            have h92 : a7.tmps.getD 92 undef = .bool G := uval_at hp 35 92 (by kernel_rfl) rfl
            have h96 : a7.tmps.getD 96 undef = .bool G := uval_at hp 39 96 (by kernel_rfl) rfl
            unfold Oper.wp
            go_simp
            exact Stepped.at rfl hd (Below.refl _ _) (FU_mk (.val (.bool false)) rfl (by first | rfl | simp | exact congrArg _ hw))
          · intro a7 wx hb hd hs7 ho hp
            refine Or.inl ⟨rfl, ?_⟩
            have h90 : a7.tmps.getD 90 undef = .bool false := uval_at hp 33 90 (by kernel_rfl) rfl
            have h97 : a7.tmps.getD 97 undef = .bool false := uval_at hp 40 97 (by kernel_rfl) rfl
            unfold Oper.wp
            go_simp
            exact Stepped.at rfl hd (Below.refl _ _) (FU_mk (.val (.bool false)) rfl (by first | rfl | simp | exact congrArg _ hw))
        intro a7 wx hJ
        have h98 : a7.tmps.getD 98 undef = .bool false := FU_at (.val (.bool false)) rfl (hJ.at_end 41 98 (by kernel_rfl))
        have h1 := (hJ.outer 1 (by kernel_rfl)).trans rfl
        have h5 := (hJ.outer 5 (by kernel_rfl)).trans rfl
        obtain ⟨T7, D7⟩ := a7
        obtain rfl : D7 = [] := hJ.defers
        exact HJ.out T7 wx hJ.tmps h98 h1 h5 hJ.below
      · obtain ⟨rfl, rfl⟩ := hVG rfl
        clear hVG hVP
        refine wp_region_grow_or (by kernel_rfl) (FU [.val (.agg #[.int .u8 k, .int .i64 n, .string s, .slice a us.length cap]), .val (.int .i64 ((Tm.depthL us : Int) + 1)), .val (.int .i64 (Tm.depthL us)), .val (.int .i64 ((Tm.depthL us : Int) + 1)), .val (.bool false), .val (.bool false), .val (.agg #[.int .u8 k, .int .i64 n, .string s, .slice a us.length cap]), .val (.bool true), .val (.bool true), .val (.bool true), .val (.int .i64 (Tm.depthL us)), .val (.bool true), .val (.bool true), .val (.bool true), .val (.agg #[.int .u8 k, .int .i64 n, .string s, vF]), .val (.bool true), .val (.bool true), .val (.bool false), .val (.bool false), .val (.bool false), .val (.agg #[.int .u8 k, .int .i64 n, .string s, .slice a us.length cap]), .val (.bool true), .val (.bool true), .val (.agg #[.int .u8 k, .int .i64 n, .string s, .slice a us.length cap]), .val (.bool true), .val (.bool false), .val (.bool false), .val (.agg #[.int .u8 k, .int .i64 n, .string s, .slice a us.length cap]), .val (.bool true), .val (.bool false), .val (.bool false), .val (.bool false), .val (.bool false), .val (.bool false), .val (.agg #[.int .u8 k, .int .i64 n, .string s, .slice a us.length cap]), .val (.bool true), .val (.agg #[.int .u8 k, .int .i64 n, .string s, .slice a us.length cap]), .pred (fun v => ∃ (a : Option Addr) (c : Nat) (ss : List (List UInt8)), SVars (.mk k n s us) ss ∧ v = .slice a ss.length c), .pred (fun v => ∃ (ss : List (List UInt8)), SVars (.mk k n s us) ss ∧ v = .int .i64 ss.length), .val (.bool true), .val (.bool false), .val (.bool false)]) (FU_grow _) (by kernel_rfl) (steps_or ?_) ?_
        · refine ⟨?_, ?_, ?_, ?_, ?_, ?_, ?_, ?_, ?_, ?_, ?_, ?_, ?_, ?_, ?_, ?_, ?_, ?_, ?_, ?_, ?_, ?_, ?_, ?_, ?_, ?_, ?_, ?_, ?_, ?_, ?_, ?_, ?_, ?_, ?_, ?_, ?_, ?_, ?_, ?_, ?_, ?_, trivial⟩
          · intro a7 wx hb hd hs7 ho hp
            refine Or.inl ⟨rfl, ?_⟩
            have h1 : a7.tmps.getD 1 undef = _ := (ho 1 (by kernel_rfl)).trans rfl
            have hx := HasRow.grow r1 hb
            have x0 := cells_at hx 0 _ rfl
            have x1 := cells_at hx 1 _ rfl
            have x2 := cells_at hx 2 _ rfl
            have x3 := cells_at hx 3 _ rfl
            unfold Oper.wp
            go_simp
            exact Stepped.at rfl hd (Below.refl _ _) (FU_mk (.val (.agg #[.int .u8 k, .int .i64 n, .string s, .slice a us.length cap])) rfl rfl)
          · intro a7 wx hb hd hs7 ho hp
            refine Or.inl ⟨rfl, ?_⟩
            have h57 : a7.tmps.getD 57 undef = .agg #[.int .u8 k, .int .i64 n, .string s, .slice a us.length cap] := uval_at hp 0 57 (by kernel_rfl) rfl
            unfold Oper.wp
            go_simp
            refine (HCD.out wx hb).mono ?_
            rintro e w2 ⟨rfl, hb2⟩
            exact Stepped.at rfl hd hb2 (FU_mk (.val (.int .i64 ((Tm.depthL us : Int) + 1))) rfl rfl)
          · intro a7 wx hb hd hs7 ho hp
            refine Or.inl ⟨rfl, ?_⟩
            have h4 : a7.tmps.getD 4 undef = _ := (ho 4 (by kernel_rfl)).trans rfl
            unfold Oper.wp
            go_simp
            exact Stepped.at rfl hd (Below.refl _ _) (FU_mk (.val (.int .i64 (Tm.depthL us))) rfl (by first | rfl | simp | exact congrArg _ hw))
          · intro a7 wx hb hd hs7 ho hp
            refine Or.inl ⟨rfl, ?_⟩
            have h59 : a7.tmps.getD 59 undef = .int .i64 (Tm.depthL us) := uval_at hp 2 59 (by kernel_rfl) rfl
            unfold Oper.wp
            go_simp
            exact Stepped.at rfl hd (Below.refl _ _) (FU_mk (.val (.int .i64 ((Tm.depthL us : Int) + 1))) rfl (by first | rfl | simp | exact congrArg _ hw))
          · intro a7 wx hb hd hs7 ho hp
            refine Or.inl ⟨rfl, ?_⟩
            have h58 : a7.tmps.getD 58 undef = .int .i64 ((Tm.depthL us : Int) + 1) := uval_at hp 1 58 (by kernel_rfl) rfl
            have h60 : a7.tmps.getD 60 undef = .int .i64 ((Tm.depthL us : Int) + 1) := uval_at hp 3 60 (by kernel_rfl) rfl
            unfold Oper.wp
            go_simp
            exact Stepped.at rfl hd (Below.refl _ _) (FU_mk (.val (.bool false)) rfl (by first | rfl | simp | exact congrArg _ hw))
          · intro a7 wx hb hd hs7 ho hp
            refine Or.inl ⟨rfl, ?_⟩
            have h61 : a7.tmps.getD 61 undef = .bool false := uval_at hp 4 61 (by kernel_rfl) rfl
            unfold Oper.wp
            go_simp
            exact Stepped.at rfl hd (Below.refl _ _) (FU_mk (.val (.bool false)) rfl (by first | rfl | simp | exact congrArg _ hw))
          · intro a7 wx hb hd hs7 ho hp
            refine Or.inl ⟨wanted_yes rfl (yielded_at (k := 5) (d := 62) (by kernel_rfl) (uval_at hp 5 62 (by kernel_rfl) rfl)), ?_⟩
            have h1 : a7.tmps.getD 1 undef = _ := (ho 1 (by kernel_rfl)).trans rfl
            have hx := HasRow.grow r1 hb
            have x0 := cells_at hx 0 _ rfl
            have x1 := cells_at hx 1 _ rfl
            have x2 := cells_at hx 2 _ rfl
            have x3 := cells_at hx 3 _ rfl
            unfold Oper.wp
            go_simp
            exact Stepped.at rfl hd (Below.refl _ _) (FU_mk (.val (.agg #[.int .u8 k, .int .i64 n, .string s, .slice a us.length cap])) rfl rfl)
          · intro a7 wx hb hd hs7 ho hp
            refine Or.inl ⟨wanted_yes rfl (yielded_at (k := 5) (d := 62) (by kernel_rfl) (uval_at hp 5 62 (by kernel_rfl) rfl)), ?_⟩
            have h63 : a7.tmps.getD 63 undef = .agg #[.int .u8 k, .int .i64 n, .string s, .slice a us.length cap] := uval_at hp 6 63 (by kernel_rfl) rfl
            unfold Oper.wp
            go_simp
            refine (HCA.out wx hb).mono ?_
            rintro e w2 ⟨rfl, hb2⟩
            exact Stepped.at rfl hd hb2 (FU_mk (.val (.bool true)) rfl rfl)
          · intro a7 wx hb hd hs7 ho hp
            refine Or.inl ⟨wanted_yes rfl (yielded_at (k := 5) (d := 62) (by kernel_rfl) (uval_at hp 5 62 (by kernel_rfl) rfl)), ?_⟩
            have h3 : a7.tmps.getD 3 undef = _ := (ho 3 (by kernel_rfl)).trans rfl
            unfold Oper.wp
            go_simp
            exact Stepped.at rfl hd (Below.refl _ _) (FU_mk (.val (.bool true)) rfl (by first | rfl | simp | exact congrArg _ hw))
          · intro a7 wx hb hd hs7 ho hp
            refine Or.inl ⟨wanted_yes rfl (yielded_at (k := 5) (d := 62) (by kernel_rfl) (uval_at hp 5 62 (by kernel_rfl) rfl)), ?_⟩
            have h65 : a7.tmps.getD 65 undef = .bool true := uval_at hp 8 65 (by kernel_rfl) rfl
            unfold Oper.wp
            go_simp
            exact Stepped.at rfl hd (Below.refl _ _) (FU_mk (.val (.bool true)) rfl (by first | rfl | simp | exact congrArg _ hw))
          · intro a7 wx hb hd hs7 ho hp
            refine Or.inl ⟨wanted_yes rfl (yielded_at (k := 9) (d := 66) (by kernel_rfl) (uval_at hp 9 66 (by kernel_rfl) rfl)), ?_⟩
            have h4 : a7.tmps.getD 4 undef = _ := (ho 4 (by kernel_rfl)).trans rfl
            unfold Oper.wp
            go_simp
            exact Stepped.at rfl hd (Below.refl _ _) (FU_mk (.val (.int .i64 (Tm.depthL us))) rfl (by first | rfl | simp | exact congrArg _ hw))
          · intro a7 wx hb hd hs7 ho hp
            refine Or.inl ⟨wanted_yes rfl (yielded_at (k := 9) (d := 66) (by kernel_rfl) (uval_at hp 9 66 (by kernel_rfl) rfl)), ?_⟩
            have h67 : a7.tmps.getD 67 undef = .int .i64 (Tm.depthL us) := uval_at hp 10 67 (by kernel_rfl) rfl
            unfold Oper.wp
            go_simp
            exact Stepped.at rfl hd (Below.refl _ _) (FU_mk (.val (.bool true)) rfl (by first | rfl | simp | exact congrArg _ hw))
          · intro a7 wx hb hd hs7 ho hp
            refine Or.inl ⟨wanted_yes rfl (yielded_at (k := 5) (d := 62) (by kernel_rfl) (uval_at hp 5 62 (by kernel_rfl) rfl)), ?_⟩
            have h66 : a7.tmps.getD 66 undef = .bool true := uval_at hp 9 66 (by kernel_rfl) rfl
            have h68 : a7.tmps.getD 68 undef = .bool true := uval_at hp 11 68 (by kernel_rfl) rfl
            unfold Oper.wp
            go_simp
            exact Stepped.at rfl hd (Below.refl _ _) (FU_mk (.val (.bool true)) rfl (by first | rfl | simp | exact congrArg _ hw))
          · intro a7 wx hb hd hs7 ho hp
            refine Or.inl ⟨wanted_yes rfl (yielded_at (k := 5) (d := 62) (by kernel_rfl) (uval_at hp 5 62 (by kernel_rfl) rfl)), ?_⟩
            have h69 : a7.tmps.getD 69 undef = .bool true := uval_at hp 12 69 (by kernel_rfl) rfl
            unfold Oper.wp
            go_simp
            exact Stepped.at rfl hd (Below.refl _ _) (FU_mk (.val (.bool true)) rfl (by first | rfl | simp | exact congrArg _ hw))
          · intro a7 wx hb hd hs7 ho hp
            refine Or.inl ⟨wanted_yes rfl (yielded_at (k := 13) (d := 70) (by kernel_rfl) (uval_at hp 13 70 (by kernel_rfl) rfl)), ?_⟩
            have h6 : a7.tmps.getD 6 undef = _ := (ho 6 (by kernel_rfl)).trans rfl
            have hx := HasRow.grow rF hb
            have x0 := cells_at hx 0 _ rfl
            have x1 := cells_at hx 1 _ rfl
            have x2 := cells_at hx 2 _ rfl
            have x3 := cells_at hx 3 _ rfl
            unfold Oper.wp
            go_simp
            exact Stepped.at rfl hd (Below.refl _ _) (FU_mk (.val (.agg #[.int .u8 k, .int .i64 n, .string s, vF])) rfl rfl)
          · intro a7 wx hb hd hs7 ho hp
            refine Or.inl ⟨wanted_yes rfl (yielded_at (k := 13) (d := 70) (by kernel_rfl) (uval_at hp 13 70 (by kernel_rfl) rfl)), ?_⟩
            have h71 : a7.tmps.getD 71 undef = .agg #[.int .u8 k, .int .i64 n, .string s, vF] := uval_at hp 14 71 (by kernel_rfl) rfl
            unfold Oper.wp
            go_simp
            refine (HCF.out wx hb).mono ?_
            rintro e w2 ⟨rfl, hb2⟩
            exact Stepped.at rfl hd hb2 (FU_mk (.val (.bool true)) rfl rfl)
          · intro a7 wx hb hd hs7 ho hp
            refine Or.inl ⟨wanted_yes rfl (yielded_at (k := 5) (d := 62) (by kernel_rfl) (uval_at hp 5 62 (by kernel_rfl) rfl)), ?_⟩
            have h70 : a7.tmps.getD 70 undef = .bool true := uval_at hp 13 70 (by kernel_rfl) rfl
            have h72 : a7.tmps.getD 72 undef = .bool true := uval_at hp 15 72 (by kernel_rfl) rfl
            unfold Oper.wp
            go_simp
            exact Stepped.at rfl hd (Below.refl _ _) (FU_mk (.val (.bool true)) rfl (by first | rfl | simp | exact congrArg _ hw))
          · intro a7 wx hb hd hs7 ho hp
            refine Or.inl ⟨wanted_yes rfl (yielded_at (k := 5) (d := 62) (by kernel_rfl) (uval_at hp 5 62 (by kernel_rfl) rfl)), ?_⟩
            have h64 : a7.tmps.getD 64 undef = .bool true := uval_at hp 7 64 (by kernel_rfl) rfl
            have h73 : a7.tmps.getD 73 undef = .bool true := uval_at hp 16 73 (by kernel_rfl) rfl
            unfold Oper.wp
            go_simp
            exact Stepped.at rfl hd (Below.refl _ _) (FU_mk (.val (.bool false)) rfl (by first | rfl | simp | exact congrArg _ hw))
          · intro a7 wx hb hd hs7 ho hp
            refine Or.inl ⟨rfl, ?_⟩
            have h62 : a7.tmps.getD 62 undef = .bool false := uval_at hp 5 62 (by kernel_rfl) rfl
            have h74 : a7.tmps.getD 74 undef = .bool false := uval_at hp 17 74 (by kernel_rfl) rfl
            unfold Oper.wp
            go_simp
            exact Stepped.at rfl hd (Below.refl _ _) (FU_mk (.val (.bool false)) rfl (by first | rfl | simp | exact congrArg _ hw))
          · intro a7 wx hb hd hs7 ho hp
            refine Or.inl ⟨rfl, ?_⟩
            have h75 : a7.tmps.getD 75 undef = .bool false := uval_at hp 18 75 (by kernel_rfl) rfl
            unfold Oper.wp
            go_simp
            exact Stepped.at rfl hd (Below.refl _ _) (FU_mk (.val (.bool false)) rfl (by first | rfl | simp | exact congrArg _ hw))
          · intro a7 wx hb hd hs7 ho hp
            refine Or.inl ⟨wanted_yes rfl (yielded_at (k := 19) (d := 76) (by kernel_rfl) (uval_at hp 19 76 (by kernel_rfl) rfl)), ?_⟩
            have h1 : a7.tmps.getD 1 undef = _ := (ho 1 (by kernel_rfl)).trans rfl
            have hx := HasRow.grow r1 hb
            have x0 := cells_at hx 0 _ rfl
            have x1 := cells_at hx 1 _ rfl
            have x2 := cells_at hx 2 _ rfl
            have x3 := cells_at hx 3 _ rfl
            unfold Oper.wp
            go_simp
            exact Stepped.at rfl hd (Below.refl _ _) (FU_mk (.val (.agg #[.int .u8 k, .int .i64 n, .string s, .slice a us.length cap])) rfl rfl)
          · intro a7 wx hb hd hs7 ho hp
            refine Or.inl ⟨wanted_yes rfl (yielded_at (k := 19) (d := 76) (by kernel_rfl) (uval_at hp 19 76 (by kernel_rfl) rfl)), ?_⟩
            have h77 : a7.tmps.getD 77 undef = .agg #[.int .u8 k, .int .i64 n, .string s, .slice a us.length cap] := uval_at hp 20 77 (by kernel_rfl) rfl
            unfold Oper.wp
            go_simp
            refine (HCL.out wx hb).mono ?_
            rintro e w2 ⟨rfl, hb2⟩
            exact Stepped.at rfl hd hb2 (FU_mk (.val (.bool true)) rfl rfl)
          · intro a7 wx hb hd hs7 ho hp
            refine Or.inl ⟨wanted_yes rfl (yielded_at (k := 19) (d := 76) (by kernel_rfl) (uval_at hp 19 76 (by kernel_rfl) rfl)), ?_⟩
            have h78 : a7.tmps.getD 78 undef = .bool true := uval_at hp 21 78 (by kernel_rfl) rfl
            unfold Oper.wp
            go_simp
            exact Stepped.at rfl hd (Below.refl _ _) (FU_mk (.val (.bool true)) rfl (by first | rfl | simp | exact congrArg _ hw))
          · intro a7 wx hb hd hs7 ho hp
            refine Or.inl ⟨wanted_yes rfl (yielded_at (k := 22) (d := 79) (by kernel_rfl) (uval_at hp 22 79 (by kernel_rfl) rfl)), ?_⟩
            have h1 : a7.tmps.getD 1 undef = _ := (ho 1 (by kernel_rfl)).trans rfl
            have hx := HasRow.grow r1 hb
            have x0 := cells_at hx 0 _ rfl
            have x1 := cells_at hx 1 _ rfl
            have x2 := cells_at hx 2 _ rfl
            have x3 := cells_at hx 3 _ rfl
            unfold Oper.wp
            go_simp
            exact Stepped.at rfl hd (Below.refl _ _) (FU_mk (.val (.agg #[.int .u8 k, .int .i64 n, .string s, .slice a us.length cap])) rfl rfl)
          · intro a7 wx hb hd hs7 ho hp
            refine Or.inl ⟨wanted_yes rfl (yielded_at (k := 22) (d := 79) (by kernel_rfl) (uval_at hp 22 79 (by kernel_rfl) rfl)), ?_⟩
            have h80 : a7.tmps.getD 80 undef = .agg #[.int .u8 k, .int .i64 n, .string s, .slice a us.length cap] := uval_at hp 23 80 (by kernel_rfl) rfl
            unfold Oper.wp
            go_simp
            refine (HCA.out wx hb).mono ?_
            rintro e w2 ⟨rfl, hb2⟩
            exact Stepped.at rfl hd hb2 (FU_mk (.val (.bool true)) rfl rfl)
          · intro a7 wx hb hd hs7 ho hp
            refine Or.inl ⟨wanted_yes rfl (yielded_at (k := 22) (d := 79) (by kernel_rfl) (uval_at hp 22 79 (by kernel_rfl) rfl)), ?_⟩
            have h81 : a7.tmps.getD 81 undef = .bool true := uval_at hp 24 81 (by kernel_rfl) rfl
            unfold Oper.wp
            go_simp
            exact Stepped.at rfl hd (Below.refl _ _) (FU_mk (.val (.bool false)) rfl (by first | rfl | simp | exact congrArg _ hw))
          · intro a7 wx hb hd hs7 ho hp
            refine Or.inl ⟨wanted_yes rfl (yielded_at (k := 22) (d := 79) (by kernel_rfl) (uval_at hp 22 79 (by kernel_rfl) rfl)), ?_⟩
            have h82 : a7.tmps.getD 82 undef = .bool false := uval_at hp 25 82 (by kernel_rfl) rfl
            unfold Oper.wp
            go_simp
            exact Stepped.at rfl hd (Below.refl _ _) (FU_mk (.val (.bool false)) rfl (by first | rfl | simp | exact congrArg _ hw))
          · intro a7 wx hb hd hs7 ho hp
            refine Or.inl ⟨wanted_yes rfl (yielded_at (k := 26) (d := 83) (by kernel_rfl) (uval_at hp 26 83 (by kernel_rfl) rfl)), ?_⟩
            have h1 : a7.tmps.getD 1 undef = _ := (ho 1 (by kernel_rfl)).trans rfl
            have hx := HasRow.grow r1 hb
            have x0 := cells_at hx 0 _ rfl
            have x1 := cells_at hx 1 _ rfl
            have x2 := cells_at hx 2 _ rfl
            have x3 := cells_at hx 3 _ rfl
            unfold Oper.wp
            go_simp
            exact Stepped.at rfl hd (Below.refl _ _) (FU_mk (.val (.agg #[.int .u8 k, .int .i64 n, .string s, .slice a us.length cap])) rfl rfl)
          · intro a7 wx hb hd hs7 ho hp
            refine Or.inl ⟨wanted_yes rfl (yielded_at (k := 26) (d := 83) (by kernel_rfl) (uval_at hp 26 83 (by kernel_rfl) rfl)), ?_⟩
            have h84 : a7.tmps.getD 84 undef = .agg #[.int .u8 k, .int .i64 n, .string s, .slice a us.length cap] := uval_at hp 27 84 (by kernel_rfl) rfl
            unfold Oper.wp
            go_simp
            refine (HCG.out wx hb).mono ?_
            rintro e w2 ⟨rfl, hb2⟩
            exact Stepped.at rfl hd hb2 (FU_mk (.val (.bool true)) rfl rfl)
          · intro a7 wx hb hd hs7 ho hp
            refine Or.inl ⟨wanted_yes rfl (yielded_at (k := 26) (d := 83) (by kernel_rfl) (uval_at hp 26 83 (by kernel_rfl) rfl)), ?_⟩
            have h85 : a7.tmps.getD 85 undef = .bool true := uval_at hp 28 85 (by kernel_rfl) rfl
            unfold Oper.wp
            go_simp
            exact Stepped.at rfl hd (Below.refl _ _) (FU_mk (.val (.bool false)) rfl (by first | rfl | simp | exact congrArg _ hw))
          · intro a7 wx hb hd hs7 ho hp
            refine Or.inl ⟨wanted_yes rfl (yielded_at (k := 22) (d := 79) (by kernel_rfl) (uval_at hp 22 79 (by kernel_rfl) rfl)), ?_⟩
            have h83 : a7.tmps.getD 83 undef = .bool false := uval_at hp 26 83 (by kernel_rfl) rfl
            have h86 : a7.tmps.getD 86 undef = .bool false := uval_at hp 29 86 (by kernel_rfl) rfl
            unfold Oper.wp
            go_simp
            exact Stepped.at rfl hd (Below.refl _ _) (FU_mk (.val (.bool false)) rfl (by first | rfl | simp | exact congrArg _ hw))
          · intro a7 wx hb hd hs7 ho hp
            refine Or.inl ⟨wanted_yes rfl (yielded_at (k := 19) (d := 76) (by kernel_rfl) (uval_at hp 19 76 (by kernel_rfl) rfl)), ?_⟩
            have h79 : a7.tmps.getD 79 undef = .bool true := uval_at hp 22 79 (by kernel_rfl) rfl
            have h87 : a7.tmps.getD 87 undef = .bool false := uval_at hp 30 87 (by kernel_rfl) rfl
            unfold Oper.wp
            go_simp
            exact Stepped.at rfl hd (Below.refl _ _) (FU_mk (.val (.bool false)) rfl (by first | rfl | simp | exact congrArg _ hw))
          · intro a7 wx hb hd hs7 ho hp
            refine Or.inl ⟨rfl, ?_⟩
            have h76 : a7.tmps.getD 76 undef = .bool false := uval_at hp 19 76 (by kernel_rfl) rfl
            have h88 : a7.tmps.getD 88 undef = .bool false := uval_at hp 31 88 (by kernel_rfl) rfl
            unfold Oper.wp
            go_simp
            exact Stepped.at rfl hd (Below.refl _ _) (FU_mk (.val (.bool false)) rfl (by first | rfl | simp | exact congrArg _ hw))
          · intro a7 wx hb hd hs7 ho hp
            refine Or.inl ⟨rfl, ?_⟩
            have h89 : a7.tmps.getD 89 undef = .bool false := uval_at hp 32 89 (by kernel_rfl) rfl
            unfold Oper.wp
            go_simp
            exact Stepped.at rfl hd (Below.refl _ _) (FU_mk (.val (.bool false)) rfl (by first | rfl | simp | exact congrArg _ hw))
          · intro a7 wx hb hd hs7 ho hp
            refine Or.inl ⟨wanted_yes rfl (yielded_at (k := 33) (d := 90) (by kernel_rfl) (uval_at hp 33 90 (by kernel_rfl) rfl)), ?_⟩
            have h1 : a7.tmps.getD 1 undef = _ := (ho 1 (by kernel_rfl)).trans rfl
            have hx := HasRow.grow r1 hb
            have x0 := cells_at hx 0 _ rfl
            have x1 := cells_at hx 1 _ rfl
            have x2 := cells_at hx 2 _ rfl
            have x3 := cells_at hx 3 _ rfl
            unfold Oper.wp
            go_simp
            exact Stepped.at rfl hd (Below.refl _ _) (FU_mk (.val (.agg #[.int .u8 k, .int .i64 n, .string s, .slice a us.length cap])) rfl rfl)
          · intro a7 wx hb hd hs7 ho hp
            refine Or.inl ⟨wanted_yes rfl (yielded_at (k := 33) (d := 90) (by kernel_rfl) (uval_at hp 33 90 (by kernel_rfl) rfl)), ?_⟩
            have h91 : a7.tmps.getD 91 undef = .agg #[.int .u8 k, .int .i64 n, .string s, .slice a us.length cap] := uval_at hp 34 91 (by kernel_rfl) rfl
            unfold Oper.wp
            go_simp
            refine (HCG.out wx hb).mono ?_
            rintro e w2 ⟨rfl, hb2⟩
            exact Stepped.at rfl hd hb2 (FU_mk (.val (.bool true)) rfl rfl)
          · intro a7 wx hb hd hs7 ho hp
            refine Or.inl ⟨wanted_yes rfl (yielded_at (k := 33) (d := 90) (by kernel_rfl) (uval_at hp 33 90 (by kernel_rfl) rfl)), ?_⟩
            have h1 : a7.tmps.getD 1 undef = _ := (ho 1 (by kernel_rfl)).trans rfl
            have hx := HasRow.grow r1 hb
            have x0 := cells_at hx 0 _ rfl
            have x1 := cells_at hx 1 _ rfl
            have x2 := cells_at hx 2 _ rfl
            have x3 := cells_at hx 3 _ rfl
            unfold Oper.wp
            go_simp
            exact Stepped.at rfl hd (Below.refl _ _) (FU_mk (.val (.agg #[.int .u8 k, .int .i64 n, .string s, .slice a us.length cap])) rfl rfl)
          · intro a7 wx hb hd hs7 ho hp
            refine Or.inl ⟨wanted_yes rfl (yielded_at (k := 33) (d := 90) (by kernel_rfl) (uval_at hp 33 90 (by kernel_rfl) rfl)), ?_⟩
            have h93 : a7.tmps.getD 93 undef = .agg #[.int .u8 k, .int .i64 n, .string s, .slice a us.length cap] := uval_at hp 36 93 (by kernel_rfl) rfl
            unfold Oper.wp
            go_simp
            refine (HCV.out wx hb).mono ?_
            rintro e w2 ⟨v, ss, rfl, hss, hoss, hb2⟩
            exact Stepped.at rfl hd hb2 (FU_mk (.pred (fun v => ∃ (a : Option Addr) (c : Nat) (ss : List (List UInt8)), SVars (.mk k n s us) ss ∧ v = .slice a ss.length c)) rfl (vars_pred hss hoss))
          · intro a7 wx hb hd hs7 ho hp
            refine Or.inl ⟨wanted_yes rfl (yielded_at (k := 33) (d := 90) (by kernel_rfl) (uval_at hp 33 90 (by kernel_rfl) rfl)), ?_⟩
            obtain ⟨aa, cc, ss, hss, h94⟩ := upred_at hp 37 94 (p := fun v => ∃ (a : Option Addr) (c : Nat) (ss : List (List UInt8)), SVars (.mk k n s us) ss ∧ v = .slice a ss.length c) (by kernel_rfl) rfl
            unfold Oper.wp
            go_simp
            exact Stepped.at rfl hd (Below.refl _ _) (FU_mk (.pred (fun v => ∃ (ss : List (List UInt8)), SVars (.mk k n s us) ss ∧ v = .int .i64 ss.length)) rfl ⟨ss, hss, rfl⟩)
          · intro a7 wx hb hd hs7 ho hp
            refine Or.inl ⟨wanted_yes rfl (yielded_at (k := 33) (d := 90) (by kernel_rfl) (uval_at hp 33 90 (by kernel_rfl) rfl)), ?_⟩
            obtain ⟨ss, hss, h95⟩ := upred_at hp 38 95 (p := fun v => ∃ (ss : List (List UInt8)), SVars (.mk k n s us) ss ∧ v = .int .i64 ss.length) (by kernel_rfl) rfl
            have hgv := HGV.out ss hss
            unfold Oper.wp
            go_simp
            exact Stepped.at rfl hd (Below.refl _ _) (FU_mk (.val (.bool true)) rfl (by first | rfl | exact congrArg Value.bool hgv))
          · intro a7 wx hb hd hs7 ho hp
            refine Or.inl ⟨wanted_yes rfl (yielded_at (k := 33) (d := 90) (by kernel_rfl) (uval_at hp 33 90 (by kernel_rfl) rfl)), ?_⟩
            have h92 : a7.tmps.getD 92 undef = .bool true := uval_at hp 35 92 (by kernel_rfl) rfl
            have h96 : a7.tmps.getD 96 undef = .bool true := uval_at hp 39 96 (by kernel_rfl) rfl
            unfold Oper.wp
            go_simp
            exact Stepped.at rfl hd (Below.refl _ _) (FU_mk (.val (.bool false)) rfl (by first | rfl | simp | exact congrArg _ hw))
          · intro a7 wx hb hd hs7 ho hp
            refine Or.inl ⟨rfl, ?_⟩
            have h90 : a7.tmps.getD 90 undef = .bool false := uval_at hp 33 90 (by kernel_rfl) rfl
            have h97 : a7.tmps.getD 97 undef = .bool false := uval_at hp 40 97 (by kernel_rfl) rfl
            unfold Oper.wp
            go_simp
            exact Stepped.at rfl hd (Below.refl _ _) (FU_mk (.val (.bool false)) rfl (by first | rfl | simp | exact congrArg _ hw))
        intro a7 wx hJ
        have h98 : a7.tmps.getD 98 undef = .bool false := FU_at (.val (.bool false)) rfl (hJ.at_end 41 98 (by kernel_rfl))
        have h1 := (hJ.outer 1 (by kernel_rfl)).trans rfl
        have h5 := (hJ.outer 5 (by kernel_rfl)).trans rfl
        obtain ⟨T7, D7⟩ := a7
        obtain rfl : D7 = [] := hJ.defers
        exact HJ.out T7 wx hJ.tmps h98 h1 h5 hJ.below
    obtain ⟨b, off, rfl, hb, hI⟩ := HARG.out (by intro e; rw [e] at hlt; simp at hlt)
    obtain ⟨p0, p1, p2, p3, e0, e1, e2, e3, hc⟩ := hI.at j hlt
    have g0 := (hBr.cell (p := ⟨b, off + j * 4, none⟩) hb).trans e0
    have g1 := (hBr.cell (p := ⟨b, off + j * 4 + 1, none⟩) hb).trans e1
    have g2 := (hBr.cell (p := ⟨b, off + j * 4 + 2, none⟩) hb).trans e2
    have g3 := (hBr.cell (p := ⟨b, off + j * 4 + 3, none⟩) hb).trans e3
    have i2 : (j : Int) < (us.length : Int) := by omega
    have hcm := Tm.count_mem (List.getElem_mem hlt)
    have hdj := Tm.depth_le_count us[j]
    have hdep : us[j].depth < 4611686018427387900 := by omega
    have hG : ∀ wx, Below wr.heap.size wr wx → IsTm wx.heap.size wx p0 p1 p2 p3 us[j] ∧ wx.cell? ⟨w.heap.size, 3, none⟩ = some (.slice (some ⟨b, off, none⟩) us.length cap) ∧ wx.cell? ⟨b, off + j * 4, none⟩ = some p0 ∧ wx.cell? ⟨b, off + j * 4 + 1, none⟩ = some p1 ∧ wx.cell? ⟨b, off + j * 4 + 2, none⟩ = some p2 ∧ wx.cell? ⟨b, off + j * 4 + 3, none⟩ = some p3 := fun wx h => by
      have hw := hBr.trans (h.mono hBr.size)
      have hbw : b < wr.heap.size := by have := hBr.size; omega
      exact ⟨(hc.below hw).mono hw.size, cells_at (r1.grow h) 3 _ rfl, (h.cell (p := ⟨b, off + j * 4, none⟩) hbw).trans g0, (h.cell (p := ⟨b, off + j * 4 + 1, none⟩) hbw).trans g1, (h.cell (p := ⟨b, off + j * 4 + 2, none⟩) hbw).trans g2, (h.cell (p := ⟨b, off + j * 4 + 3, none⟩) hbw).trans g3⟩
    have HG := Lib.hid hG
    clear e0 e1 e2 e3 hc hG
    have hall : (us.take (j + 1)).all Tm.validB = ((us.take j).all Tm.validB && us[j].validB) := by
      rw [List.take_succ_eq_append_getElem hlt, List.all_append]
      simp
    obtain ⟨P, hP⟩ : ∃ P, (us.take j).all Tm.validB = P := ⟨_, rfl⟩
    rw [hP] at hall
    rw [hP]
    have hV := valid_any us[j] p0 p1 p2 p3 wr (HG.out wr (Below.refl _ _)).1 hdep
    obtain ⟨Vj, hVj⟩ : ∃ b, us[j].validB = b := ⟨_, rfl⟩
    rw [hVj] at hall hV
    have HV := Lib.hid hV
    have HALL := Lib.hid hall
    have HD := Lib.hid hdep
    have HN := Lib.hid hN
    have HO5 := Lib.hid hO5
    have HOF := Lib.hid hOF
    have HRF := Lib.hid rF
    have HR1 := Lib.hid r1
    have HBR := Lib.hid hBr
    clear hV hVj hall hP hdep hN hO5 hOF rF r1 hBr
    cases P
    · go_wp2_with fail
      have hbV := Below.refl wr.heap.size wr
      have hPn : (us.take (j + 1)).all Tm.validB = (false && Vj) := HALL.out
      refine (depth_any us[j] p0 p1 p2 p3 wr (HG.out wr hbV).1 HD.out).mono ?_
      clear x3 g0 g1 g2 g3
      rintro e w5 ⟨rfl, hb5⟩
      have hb5 := hbV.trans (hb5.mono hbV.size)
      obtain ⟨_, x3, g0, g1, g2, g3⟩ := HG.out w5 hb5
      go_wp2_with fail
      refine (vars_any us[j] p0 p1 p2 p3 w5 (HG.out w5 hb5).1 HD.out (by rw [nodes_count]; omega)).mono ?_
      clear x3 g0 g1 g2 g3
      rintro e w6 ⟨v6, ss, rfl, hv6, ho6, hb6⟩
      have hss := svars_len hv6
      rw [nodes_count] at hss
      have hb6 := hb5.trans (hb6.mono hb5.size)
      have hO6 := own_grow HO5.out hb6
      have hOF6 := own_grow HOF.out hb6
      have rF6 := HRF.out.grow hb6
      have r16 := HR1.out.grow hb6
      have hB6 := HBR.out.trans (hb6.mono HBR.out.size)
      have hz6 : fb + 1 ≤ w6.heap.size := by have := hb6.size; omega
      have hNn := HN.out.next hlt hv6
      have hct := countL_take us j
      have hcs := countL_snoc us j hlt
      clear hb5 hb6 hbV
      rcases ho6.2 with ⟨rfl, hs0⟩ | ⟨g, cp, cur, rfl, hgb, hgr, _⟩
      · have hss0 : ss = [] := List.length_eq_zero_iff.1 hs0
        subst hss0
        rw [List.append_nil] at hNn
        clear ho6 hs0
        have HO6 := Lib.hid hO6
        clear hO6
        go_wp2_with (at_builtin; refine wpList_append_own_none rfl _ _ 27 rfl (fb + 1) 9 i1s 1 Tryz.underlying27 HIS.out.1 _ _ _ rfl HO6.out rfl ?_)
        have hO7 := HO6.out
        clear HO6
        have hfl : fb < w6.heap.size := by omega
        have z3 := cells_at rF6 3 _ rfl
        have HO7 := Lib.hid hO7
        have HOF6 := Lib.hid hOF6
        have HRF6 := Lib.hid rF6
        have HR16 := Lib.hid r16
        have HB6 := Lib.hid hB6
        have HNN := Lib.hid hNn
        clear hO7 hOF6 rF6 r16 hB6 hNn hv6
        refine wp_region_grow_tail (by kernel_rfl) 4 (FQ [ .val (.pointer (some ⟨fb, 3, none⟩)), .val (vF), .val (.agg #[.int .u8 1, .int .i64 7, .string ⟨#[]⟩, .slice none 0 0]), .row (24) (#[.int .u8 1, .int .i64 7, .string ⟨#[]⟩, .slice none 0 0]) 1]) (FQ_grow _) (by kernel_rfl) (by kernel_rfl) (steps_to ?_) ?_
        · simp only [List.take_succ_cons, List.take_zero]
          refine ⟨?_, ?_, ?_, ?_, trivial⟩
          · intro a wx hb hd hs ho hp
            refine ⟨rfl, ?_⟩
            have h6 : a.tmps.getD 6 undef = _ := (ho 6 (by kernel_rfl)).trans rfl
            unfold Oper.wp
            go_simp
            exact Stepped.at rfl hd (Below.refl _ _) (FQ_mk (.val (.pointer (some ⟨fb, 3, none⟩))) rfl (by first | rfl | simp))
          · intro a wx hb hd hs ho hp
            refine ⟨rfl, ?_⟩
            have h51 : a.tmps.getD 51 undef = .pointer (some ⟨fb, 3, none⟩) := qval_at hp 0 51 (by kernel_rfl) rfl
            have x0 := (hb.cell (p := ⟨fb, 3, none⟩) hfl).trans z3
            unfold Oper.wp
            go_simp
            exact Stepped.at rfl hd (Below.refl _ _) (FQ_mk (.val (vF)) rfl rfl)
          · intro a wx hb hd hs ho hp
            refine ⟨rfl, ?_⟩
            unfold Oper.wp
            go_simp
            refine (num_exact 7 wx).mono ?_
            rintro e w2 ⟨rfl, hb2⟩
            exact Stepped.at rfl hd hb2 (FQ_mk (.val (.agg #[.int .u8 1, .int .i64 7, .string ⟨#[]⟩, .slice none 0 0])) rfl rfl)
          · intro a wx hb hd hs ho hp
            refine ⟨rfl, ?_⟩
            have h53 : a.tmps.getD 53 undef = .agg #[.int .u8 1, .int .i64 7, .string ⟨#[]⟩, .slice none 0 0] := qval_at hp 2 53 (by kernel_rfl) rfl
            have s53 := qslot_of (hs.trans (show _ = 151 from rfl)) (by decide) h53
            unfold Oper.wp
            go_simp
            exact Stepped.at rfl hd ((Below.refl _ _).alloc (Nat.le_refl _) _) (FQ_mk (.row (24) (#[.int .u8 1, .int .i64 7, .string ⟨#[]⟩, .slice none 0 0]) 1) rfl ⟨_, rfl, World.alloc_heap_new _ _⟩)
        intro a7 w8 hb8 hd8 hs8 ho7 hf8
        have k51 : a7.tmps.getD 51 undef = .pointer (some ⟨fb, 3, none⟩) := FQ_at (.val (.pointer (some ⟨fb, 3, none⟩))) rfl (facts_to hf8 0 51 (by decide) (by kernel_rfl))
        have k52 : a7.tmps.getD 52 undef = vF := FQ_at (.val vF) rfl (facts_to hf8 1 52 (by decide) (by kernel_rfl))
        have k53 : a7.tmps.getD 53 undef = .agg #[.int .u8 1, .int .i64 7, .string ⟨#[]⟩, .slice none 0 0] := FQ_at (.val (.agg #[.int .u8 1, .int .i64 7, .string ⟨#[]⟩, .slice none 0 0])) rfl (facts_to hf8 2 53 (by decide) (by kernel_rfl))
        obtain ⟨g8, k54, hg8⟩ : Dq.holds (a7.tmps.getD 54 undef) w8 (.row 24 #[.int .u8 1, .int .i64 7, .string ⟨#[]⟩, .slice none 0 0] 1) := FQ_at (.row 24 #[.int .u8 1, .int .i64 7, .string ⟨#[]⟩, .slice none 0 0] 1) rfl (facts_to hf8 3 54 (by decide) (by kernel_rfl))
        have hO8 := own_grow HO7.out hb8
        have hOF8 := own_grow HOF6.out hb8
        have rF8 := HRF6.out.grow hb8
        have r18 := HR16.out.grow hb8
        have hB8 := HB6.out.trans (hb8.mono HB6.out.size)
        have hz8 : fb + 1 ≤ w8.heap.size := by have := hb8.size; omega
        have hE := slots_all a7.tmps 151 (hs8.trans rfl)
        simp only [List.range, List.range.loop, List.map, k51, k52, k53, k54, ho7 0 (by kernel_rfl), ho7 1 (by kernel_rfl), ho7 2 (by kernel_rfl), ho7 3 (by kernel_rfl), ho7 4 (by kernel_rfl), ho7 5 (by kernel_rfl), ho7 6 (by kernel_rfl), ho7 7 (by kernel_rfl), ho7 8 (by kernel_rfl), ho7 9 (by kernel_rfl), ho7 10 (by kernel_rfl), ho7 11 (by kernel_rfl), ho7 12 (by kernel_rfl), ho7 13 (by kernel_rfl), ho7 14 (by kernel_rfl), ho7 15 (by kernel_rfl), ho7 16 (by kernel_rfl), ho7 17 (by kernel_rfl), ho7 18 (by kernel_rfl), ho7 19 (by kernel_rfl), ho7 20 (by kernel_rfl), ho7 21 (by kernel_rfl), ho7 22 (by kernel_rfl), ho7 23 (by kernel_rfl), ho7 24 (by kernel_rfl), ho7 25 (by kernel_rfl), ho7 26 (by kernel_rfl), ho7 27 (by kernel_rfl), ho7 28 (by kernel_rfl), ho7 29 (by kernel_rfl), ho7 30 (by kernel_rfl), ho7 31 (by kernel_rfl), ho7 32 (by kernel_rfl), ho7 33 (by kernel_rfl), ho7 34 (by kernel_rfl), ho7 35 (by kernel_rfl), ho7 36 (by kernel_rfl), ho7 37 (by kernel_rfl), ho7 38 (by kernel_rfl), ho7 39 (by kernel_rfl), ho7 40 (by kernel_rfl), ho7 41 (by kernel_rfl), ho7 42 (by kernel_rfl), ho7 43 (by kernel_rfl), ho7 44 (by kernel_rfl), ho7 45 (by kernel_rfl), ho7 46 (by kernel_rfl), ho7 47 (by kernel_rfl), ho7 48 (by kernel_rfl), ho7 49 (by kernel_rfl), ho7 50 (by kernel_rfl), ho7 55 (by kernel_rfl), ho7 56 (by kernel_rfl), ho7 57 (by kernel_rfl), ho7 58 (by kernel_rfl), ho7 59 (by kernel_rfl), ho7 60 (by kernel_rfl), ho7 61 (by kernel_rfl), ho7 62 (by kernel_rfl), ho7 63 (by kernel_rfl), ho7 64 (by kernel_rfl), ho7 65 (by kernel_rfl), ho7 66 (by kernel_rfl), ho7 67 (by kernel_rfl), ho7 68 (by kernel_rfl), ho7 69 (by kernel_rfl), ho7 70 (by kernel_rfl), ho7 71 (by kernel_rfl), ho7 72 (by kernel_rfl), ho7 73 (by kernel_rfl), ho7 74 (by kernel_rfl), ho7 75 (by kernel_rfl), ho7 76 (by kernel_rfl), ho7 77 (by kernel_rfl), ho7 78 (by kernel_rfl), ho7 79 (by kernel_rfl), ho7 80 (by kernel_rfl), ho7 81 (by kernel_rfl), ho7 82 (by kernel_rfl), ho7 83 (by kernel_rfl), ho7 84 (by kernel_rfl), ho7 85 (by kernel_rfl), ho7 86 (by kernel_rfl), ho7 87 (by kernel_rfl), ho7 88 (by kernel_rfl), ho7 89 (by kernel_rfl), ho7 90 (by kernel_rfl), ho7 91 (by kernel_rfl), ho7 92 (by kernel_rfl), ho7 93 (by kernel_rfl), ho7 94 (by kernel_rfl), ho7 95 (by kernel_rfl), ho7 96 (by kernel_rfl), ho7 97 (by kernel_rfl), ho7 98 (by kernel_rfl), ho7 99 (by kernel_rfl), ho7 100 (by kernel_rfl), ho7 101 (by kernel_rfl), ho7 102 (by kernel_rfl), ho7 103 (by kernel_rfl), ho7 104 (by kernel_rfl), ho7 105 (by kernel_rfl), ho7 106 (by kernel_rfl), ho7 107 (by kernel_rfl), ho7 108 (by kernel_rfl), ho7 109 (by kernel_rfl), ho7 110 (by kernel_rfl), ho7 111 (by kernel_rfl), ho7 112 (by kernel_rfl), ho7 113 (by kernel_rfl), ho7 114 (by kernel_rfl), ho7 115 (by kernel_rfl), ho7 116 (by kernel_rfl), ho7 117 (by kernel_rfl), ho7 118 (by kernel_rfl), ho7 119 (by kernel_rfl), ho7 120 (by kernel_rfl), ho7 121 (by kernel_rfl), ho7 122 (by kernel_rfl), ho7 123 (by kernel_rfl), ho7 124 (by kernel_rfl), ho7 125 (by kernel_rfl), ho7 126 (by kernel_rfl), ho7 127 (by kernel_rfl), ho7 128 (by kernel_rfl), ho7 129 (by kernel_rfl), ho7 130 (by kernel_rfl), ho7 131 (by kernel_rfl), ho7 132 (by kernel_rfl), ho7 133 (by kernel_rfl), ho7 134 (by kernel_rfl), ho7 135 (by kernel_rfl), ho7 136 (by kernel_rfl), ho7 137 (by kernel_rfl), ho7 138 (by kernel_rfl), ho7 139 (by kernel_rfl), ho7 140 (by kernel_rfl), ho7 141 (by kernel_rfl), ho7 142 (by kernel_rfl), ho7 143 (by kernel_rfl), ho7 144 (by kernel_rfl), ho7 145 (by kernel_rfl), ho7 146 (by kernel_rfl), ho7 147 (by kernel_rfl), ho7 148 (by kernel_rfl), ho7 149 (by kernel_rfl), ho7 150 (by kernel_rfl)] at hE
        obtain ⟨T7, D7⟩ := a7
        simp only at hE hd8
        subst hd8 hE
        clear k51 k52 k53 k54 hf8 hs8 ho7 z3 hfl hb8 HO7 HOF6 HRF6 HR16 HB6
        have HOF8 := Lib.hid hOF8
        have HO8 := Lib.hid hO8
        have HG8 := Lib.hid hg8
        clear hOF8 hO8 hg8
        simp only [List.drop_succ_cons, List.drop_zero]
        refine wpList_append_own _ rfl _ _ 22 rfl (fb + 1) 24 i1t (.agg #[.int .u8 0, .int .i64 0, .string ⟨#[]⟩, .slice none 0 0]) 4 56 Tryz.underlying22 HIT.out.1 HIT.out.2.1 HIT.out.2.2.1 HIT.out.2.2.2 rfl (by decide) _ _ _ rfl HOF8.out ⟨g8, 0, none⟩ 1 1 [.int .u8 1, .int .i64 7, .string ⟨#[]⟩, .slice none 0 0] rfl rfl ?d1 ?d2 ?d3 ?d4 ?d5 ?_
        case d1 =>
          intro i u hj
          match i, hj with
          | 0, hj | 1, hj | 2, hj | 3, hj => simp at hj; subst hj; exact cells_at HG8.out _ _ rfl
        case d2 => intro u hu; simp at hu; rcases hu with rfl | rfl | rfl | rfl <;> rfl
        case d3 => unfold maxLen; omega
        case d4 => omega
        case d5 => exact hz8
        intro v9 w9 hO9 hg9 _
        have hob := HOF8.out.lt
        have hap := rows_apart HO8.out HOF8.out (by decide)
        have rF9 : HasRow fb #[.int .u8 k, .int .i64 n, .string s, vF] w9 := (hg9.block fb (by omega) (fun e => by have := (hob _ e.symm).1; omega)).trans rF8
        have r19 : HasRow w.heap.size #[.int .u8 k, .int .i64 n, .string s, .slice (some ⟨b, off, none⟩) us.length cap] w9 := (hg9.block w.heap.size (by omega) (fun e => by have := (hob _ e.symm).1; omega)).trans r18
        have hO5n := HO8.out.kept hg9 hap
        have hB9 := hB8.grown hg9 hB8.size (fun k e => by have := (hob k e).1; omega)
        have hz9 : fb + 1 ≤ w9.heap.size := Nat.le_trans hz8 hg9.size
        rw [← sevens_next] at hO9
        obtain ⟨g9, cap9, rfl⟩ : ∃ g c, v9 = .slice (some ⟨g, 0, none⟩) (j + 1) c := by
          rcases hO9.2 with ⟨_, h0⟩ | ⟨g, c, cur, rfl, _⟩
          · omega
          · exact ⟨g, c, rfl⟩
        clear HOF8 HO8 HG8 hg9 hob hap rF8 r18 hB8 hz8
        have q0 := cells_at rF9 3 _ rfl
        have q1 := rF9.free 3
        have hOa := ownsRow_setCell_below hO5n (a := ⟨fb, 3, none⟩) (Nat.lt_succ_self fb) (.slice (some ⟨g9, 0, none⟩) (j + 1) cap9)
        have hOb := ownsRow_setCell_below hO9 (a := ⟨fb, 3, none⟩) (Nat.lt_succ_self fb) (.slice (some ⟨g9, 0, none⟩) (j + 1) cap9)
        have rFc : HasRow fb #[.int .u8 k, .int .i64 n, .string s, .slice (some ⟨g9, 0, none⟩) (j + 1) cap9] (w9.setCell ⟨fb, 3, none⟩ (.slice (some ⟨g9, 0, none⟩) (j + 1) cap9)) := rF9.put 3 (.slice (some ⟨g9, 0, none⟩) (j + 1) cap9)
        have r1c := r19.other (g := fb) (by omega) 3 (.slice (some ⟨g9, 0, none⟩) (j + 1) cap9)
        have hBc := hB9.setCell (p := ⟨fb, 3, none⟩) (by show w.heap.size ≤ fb; omega) (.slice (some ⟨g9, 0, none⟩) (j + 1) cap9)
        have hzc : fb + 1 ≤ (w9.setCell ⟨fb, 3, none⟩ (.slice (some ⟨g9, 0, none⟩) (j + 1) cap9)).heap.size := by simpa using hz9
        have HREL := Lib.hid (And.intro hOa (And.intro hOb (And.intro rFc (And.intro r1c (And.intro hBc hzc)))))
        have HPN := Lib.hid hPn
        clear hO5n hO9 hOa hOb rFc r1c hBc hzc rF9 r19 hB9 hz9 hPn
        go_wp2_with fail
        go_roundw
        case rel =>
          refine ⟨j + 1, L, _, by omega, by go_num, ?_, ?_, HNN.out, ?_, HREL.out.1, HREL.out.2.2.1, HREL.out.2.1, HREL.out.2.2.2.2.2, HREL.out.2.2.2.1, HREL.out.2.2.2.2.1⟩
          · rw [HPN.out]; try simp
          · rw [depthL_snoc us j hlt]; congr 1; omega
          · first | (simp only [List.length_append]; omega) | omega
        case measure => simp [intOf]; omega
      · have HO6 := Lib.hid hO6
        have HC6 := Lib.hid (ho6.cells (g := g) rfl)
        clear ho6 hgr hO6
        go_wp2_with (at_builtin; refine wpList_append_own _ rfl _ _ 27 rfl (fb + 1) 9 i1s (.string ⟨#[]⟩) 1 16 Tryz.underlying27 HIS.out.1 HIS.out.2.1 HIS.out.2.2.1 HIS.out.2.2.2 rfl (by decide) _ _ _ rfl HO6.out ⟨g, 0, none⟩ ss.length cp (ss.map encStr) rfl ?c0 ?c1 ?c2 ?c3 ?c4 ?c5 ?_)
        case c0 => simp
        case c1 => exact HC6.out
        case c2 => intro u hu; obtain ⟨x, _, rfl⟩ := List.mem_map.1 hu; rfl
        case c3 => unfold maxLen; omega
        case c4 => omega
        case c5 => exact hz6
        intro v7 w7 hO7 hg7 _
        have hob := HO6.out.lt
        have hap := rows_apart hOF6 HO6.out (by decide)
        have rF6 : HasRow fb #[.int .u8 k, .int .i64 n, .string s, vF] w7 := (hg7.block fb (by omega) (fun e => by have := (hob _ e.symm).1; omega)).trans rF6
        have r16 : HasRow w.heap.size #[.int .u8 k, .int .i64 n, .string s, .slice (some ⟨b, off, none⟩) us.length cap] w7 := (hg7.block w.heap.size (by omega) (fun e => by have := (hob _ e.symm).1; omega)).trans r16
        have hOF6 := hOF6.kept hg7 hap
        have hB6 := hB6.grown hg7 hB6.size (fun k e => by have := (hob k e).1; omega)
        have hz6 : fb + 1 ≤ w7.heap.size := Nat.le_trans hz6 hg7.size
        have hO7 : w7.ownsRow (fb + 1) 9 1 v7 (L ++ ss).length ((L ++ ss).map encStr) := by
          rw [List.length_append, List.map_append]; exact hO7
        clear HO6 HC6 hg7 hob hap
        go_wp2_with fail
        have hfl : fb < w7.heap.size := by omega
        have z3 := cells_at rF6 3 _ rfl
        have HO7 := Lib.hid hO7
        have HOF6 := Lib.hid hOF6
        have HRF6 := Lib.hid rF6
        have HR16 := Lib.hid r16
        have HB6 := Lib.hid hB6
        have HNN := Lib.hid hNn
        clear hO7 hOF6 rF6 r16 hB6 hNn hv6
        refine wp_region_grow_tail (by kernel_rfl) 4 (FQ [ .val (.pointer (some ⟨fb, 3, none⟩)), .val (vF), .val (.agg #[.int .u8 1, .int .i64 7, .string ⟨#[]⟩, .slice none 0 0]), .row (24) (#[.int .u8 1, .int .i64 7, .string ⟨#[]⟩, .slice none 0 0]) 1]) (FQ_grow _) (by kernel_rfl) (by kernel_rfl) (steps_to ?_) ?_
        · simp only [List.take_succ_cons, List.take_zero]
          refine ⟨?_, ?_, ?_, ?_, trivial⟩
          · intro a wx hb hd hs ho hp
            refine ⟨rfl, ?_⟩
            have h6 : a.tmps.getD 6 undef = _ := (ho 6 (by kernel_rfl)).trans rfl
            unfold Oper.wp
            go_simp
            exact Stepped.at rfl hd (Below.refl _ _) (FQ_mk (.val (.pointer (some ⟨fb, 3, none⟩))) rfl (by first | rfl | simp))
          · intro a wx hb hd hs ho hp
            refine ⟨rfl, ?_⟩
            have h51 : a.tmps.getD 51 undef = .pointer (some ⟨fb, 3, none⟩) := qval_at hp 0 51 (by kernel_rfl) rfl
            have x0 := (hb.cell (p := ⟨fb, 3, none⟩) hfl).trans z3
            unfold Oper.wp
            go_simp
            exact Stepped.at rfl hd (Below.refl _ _) (FQ_mk (.val (vF)) rfl rfl)
          · intro a wx hb hd hs ho hp
            refine ⟨rfl, ?_⟩
            unfold Oper.wp
            go_simp
            refine (num_exact 7 wx).mono ?_
            rintro e w2 ⟨rfl, hb2⟩
            exact Stepped.at rfl hd hb2 (FQ_mk (.val (.agg #[.int .u8 1, .int .i64 7, .string ⟨#[]⟩, .slice none 0 0])) rfl rfl)
          · intro a wx hb hd hs ho hp
            refine ⟨rfl, ?_⟩
            have h53 : a.tmps.getD 53 undef = .agg #[.int .u8 1, .int .i64 7, .string ⟨#[]⟩, .slice none 0 0] := qval_at hp 2 53 (by kernel_rfl) rfl
            have s53 := qslot_of (hs.trans (show _ = 151 from rfl)) (by decide) h53
            unfold Oper.wp
            go_simp
            exact Stepped.at rfl hd ((Below.refl _ _).alloc (Nat.le_refl _) _) (FQ_mk (.row (24) (#[.int .u8 1, .int .i64 7, .string ⟨#[]⟩, .slice none 0 0]) 1) rfl ⟨_, rfl, World.alloc_heap_new _ _⟩)
        intro a7 w8 hb8 hd8 hs8 ho7 hf8
        have k51 : a7.tmps.getD 51 undef = .pointer (some ⟨fb, 3, none⟩) := FQ_at (.val (.pointer (some ⟨fb, 3, none⟩))) rfl (facts_to hf8 0 51 (by decide) (by kernel_rfl))
        have k52 : a7.tmps.getD 52 undef = vF := FQ_at (.val vF) rfl (facts_to hf8 1 52 (by decide) (by kernel_rfl))
        have k53 : a7.tmps.getD 53 undef = .agg #[.int .u8 1, .int .i64 7, .string ⟨#[]⟩, .slice none 0 0] := FQ_at (.val (.agg #[.int .u8 1, .int .i64 7, .string ⟨#[]⟩, .slice none 0 0])) rfl (facts_to hf8 2 53 (by decide) (by kernel_rfl))
        obtain ⟨g8, k54, hg8⟩ : Dq.holds (a7.tmps.getD 54 undef) w8 (.row 24 #[.int .u8 1, .int .i64 7, .string ⟨#[]⟩, .slice none 0 0] 1) := FQ_at (.row 24 #[.int .u8 1, .int .i64 7, .string ⟨#[]⟩, .slice none 0 0] 1) rfl (facts_to hf8 3 54 (by decide) (by kernel_rfl))
        have hO8 := own_grow HO7.out hb8
        have hOF8 := own_grow HOF6.out hb8
        have rF8 := HRF6.out.grow hb8
        have r18 := HR16.out.grow hb8
        have hB8 := HB6.out.trans (hb8.mono HB6.out.size)
        have hz8 : fb + 1 ≤ w8.heap.size := by have := hb8.size; omega
        have hE := slots_all a7.tmps 151 (hs8.trans rfl)
        simp only [List.range, List.range.loop, List.map, k51, k52, k53, k54, ho7 0 (by kernel_rfl), ho7 1 (by kernel_rfl), ho7 2 (by kernel_rfl), ho7 3 (by kernel_rfl), ho7 4 (by kernel_rfl), ho7 5 (by kernel_rfl), ho7 6 (by kernel_rfl), ho7 7 (by kernel_rfl), ho7 8 (by kernel_rfl), ho7 9 (by kernel_rfl), ho7 10 (by kernel_rfl), ho7 11 (by kernel_rfl), ho7 12 (by kernel_rfl), ho7 13 (by kernel_rfl), ho7 14 (by kernel_rfl), ho7 15 (by kernel_rfl), ho7 16 (by kernel_rfl), ho7 17 (by kernel_rfl), ho7 18 (by kernel_rfl), ho7 19 (by kernel_rfl), ho7 20 (by kernel_rfl), ho7 21 (by kernel_rfl), ho7 22 (by kernel_rfl), ho7 23 (by kernel_rfl), ho7 24 (by kernel_rfl), ho7 25 (by kernel_rfl), ho7 26 (by kernel_rfl), ho7 27 (by kernel_rfl), ho7 28 (by kernel_rfl), ho7 29 (by kernel_rfl), ho7 30 (by kernel_rfl), ho7 31 (by kernel_rfl), ho7 32 (by kernel_rfl), ho7 33 (by kernel_rfl), ho7 34 (by kernel_rfl), ho7 35 (by kernel_rfl), ho7 36 (by kernel_rfl), ho7 37 (by kernel_rfl), ho7 38 (by kernel_rfl), ho7 39 (by kernel_rfl), ho7 40 (by kernel_rfl), ho7 41 (by kernel_rfl), ho7 42 (by kernel_rfl), ho7 43 (by kernel_rfl), ho7 44 (by kernel_rfl), ho7 45 (by kernel_rfl), ho7 46 (by kernel_rfl), ho7 47 (by kernel_rfl), ho7 48 (by kernel_rfl), ho7 49 (by kernel_rfl), ho7 50 (by kernel_rfl), ho7 55 (by kernel_rfl), ho7 56 (by kernel_rfl), ho7 57 (by kernel_rfl), ho7 58 (by kernel_rfl), ho7 59 (by kernel_rfl), ho7 60 (by kernel_rfl), ho7 61 (by kernel_rfl), ho7 62 (by kernel_rfl), ho7 63 (by kernel_rfl), ho7 64 (by kernel_rfl), ho7 65 (by kernel_rfl), ho7 66 (by kernel_rfl), ho7 67 (by kernel_rfl), ho7 68 (by kernel_rfl), ho7 69 (by kernel_rfl), ho7 70 (by kernel_rfl), ho7 71 (by kernel_rfl), ho7 72 (by kernel_rfl), ho7 73 (by kernel_rfl), ho7 74 (by kernel_rfl), ho7 75 (by kernel_rfl), ho7 76 (by kernel_rfl), ho7 77 (by kernel_rfl), ho7 78 (by kernel_rfl), ho7 79 (by kernel_rfl), ho7 80 (by kernel_rfl), ho7 81 (by kernel_rfl), ho7 82 (by kernel_rfl), ho7 83 (by kernel_rfl), ho7 84 (by kernel_rfl), ho7 85 (by kernel_rfl), ho7 86 (by kernel_rfl), ho7 87 (by kernel_rfl), ho7 88 (by kernel_rfl), ho7 89 (by kernel_rfl), ho7 90 (by kernel_rfl), ho7 91 (by kernel_rfl), ho7 92 (by kernel_rfl), ho7 93 (by kernel_rfl), ho7 94 (by kernel_rfl), ho7 95 (by kernel_rfl), ho7 96 (by kernel_rfl), ho7 97 (by kernel_rfl), ho7 98 (by kernel_rfl), ho7 99 (by kernel_rfl), ho7 100 (by kernel_rfl), ho7 101 (by kernel_rfl), ho7 102 (by kernel_rfl), ho7 103 (by kernel_rfl), ho7 104 (by kernel_rfl), ho7 105 (by kernel_rfl), ho7 106 (by kernel_rfl), ho7 107 (by kernel_rfl), ho7 108 (by kernel_rfl), ho7 109 (by kernel_rfl), ho7 110 (by kernel_rfl), ho7 111 (by kernel_rfl), ho7 112 (by kernel_rfl), ho7 113 (by kernel_rfl), ho7 114 (by kernel_rfl), ho7 115 (by kernel_rfl), ho7 116 (by kernel_rfl), ho7 117 (by kernel_rfl), ho7 118 (by kernel_rfl), ho7 119 (by kernel_rfl), ho7 120 (by kernel_rfl), ho7 121 (by kernel_rfl), ho7 122 (by kernel_rfl), ho7 123 (by kernel_rfl), ho7 124 (by kernel_rfl), ho7 125 (by kernel_rfl), ho7 126 (by kernel_rfl), ho7 127 (by kernel_rfl), ho7 128 (by kernel_rfl), ho7 129 (by kernel_rfl), ho7 130 (by kernel_rfl), ho7 131 (by kernel_rfl), ho7 132 (by kernel_rfl), ho7 133 (by kernel_rfl), ho7 134 (by kernel_rfl), ho7 135 (by kernel_rfl), ho7 136 (by kernel_rfl), ho7 137 (by kernel_rfl), ho7 138 (by kernel_rfl), ho7 139 (by kernel_rfl), ho7 140 (by kernel_rfl), ho7 141 (by kernel_rfl), ho7 142 (by kernel_rfl), ho7 143 (by kernel_rfl), ho7 144 (by kernel_rfl), ho7 145 (by kernel_rfl), ho7 146 (by kernel_rfl), ho7 147 (by kernel_rfl), ho7 148 (by kernel_rfl), ho7 149 (by kernel_rfl), ho7 150 (by kernel_rfl)] at hE
        obtain ⟨T7, D7⟩ := a7
        simp only at hE hd8
        subst hd8 hE
        clear k51 k52 k53 k54 hf8 hs8 ho7 z3 hfl hb8 HO7 HOF6 HRF6 HR16 HB6
        have HOF8 := Lib.hid hOF8
        have HO8 := Lib.hid hO8
        have HG8 := Lib.hid hg8
        clear hOF8 hO8 hg8
        simp only [List.drop_succ_cons, List.drop_zero]
        refine wpList_append_own _ rfl _ _ 22 rfl (fb + 1) 24 i1t (.agg #[.int .u8 0, .int .i64 0, .string ⟨#[]⟩, .slice none 0 0]) 4 56 Tryz.underlying22 HIT.out.1 HIT.out.2.1 HIT.out.2.2.1 HIT.out.2.2.2 rfl (by decide) _ _ _ rfl HOF8.out ⟨g8, 0, none⟩ 1 1 [.int .u8 1, .int .i64 7, .string ⟨#[]⟩, .slice none 0 0] rfl rfl ?d1 ?d2 ?d3 ?d4 ?d5 ?_
        case d1 =>
          intro i u hj
          match i, hj with
          | 0, hj | 1, hj | 2, hj | 3, hj => simp at hj; subst hj; exact cells_at HG8.out _ _ rfl
        case d2 => intro u hu; simp at hu; rcases hu with rfl | rfl | rfl | rfl <;> rfl
        case d3 => unfold maxLen; omega
        case d4 => omega
        case d5 => exact hz8
        intro v9 w9 hO9 hg9 _
        have hob := HOF8.out.lt
        have hap := rows_apart HO8.out HOF8.out (by decide)
        have rF9 : HasRow fb #[.int .u8 k, .int .i64 n, .string s, vF] w9 := (hg9.block fb (by omega) (fun e => by have := (hob _ e.symm).1; omega)).trans rF8
        have r19 : HasRow w.heap.size #[.int .u8 k, .int .i64 n, .string s, .slice (some ⟨b, off, none⟩) us.length cap] w9 := (hg9.block w.heap.size (by omega) (fun e => by have := (hob _ e.symm).1; omega)).trans r18
        have hO5n := HO8.out.kept hg9 hap
        have hB9 := hB8.grown hg9 hB8.size (fun k e => by have := (hob k e).1; omega)
        have hz9 : fb + 1 ≤ w9.heap.size := Nat.le_trans hz8 hg9.size
        rw [← sevens_next] at hO9
        obtain ⟨g9, cap9, rfl⟩ : ∃ g c, v9 = .slice (some ⟨g, 0, none⟩) (j + 1) c := by
          rcases hO9.2 with ⟨_, h0⟩ | ⟨g, c, cur, rfl, _⟩
          · omega
          · exact ⟨g, c, rfl⟩
        clear HOF8 HO8 HG8 hg9 hob hap rF8 r18 hB8 hz8
        have q0 := cells_at rF9 3 _ rfl
        have q1 := rF9.free 3
        have hOa := ownsRow_setCell_below hO5n (a := ⟨fb, 3, none⟩) (Nat.lt_succ_self fb) (.slice (some ⟨g9, 0, none⟩) (j + 1) cap9)
        have hOb := ownsRow_setCell_below hO9 (a := ⟨fb, 3, none⟩) (Nat.lt_succ_self fb) (.slice (some ⟨g9, 0, none⟩) (j + 1) cap9)
        have rFc : HasRow fb #[.int .u8 k, .int .i64 n, .string s, .slice (some ⟨g9, 0, none⟩) (j + 1) cap9] (w9.setCell ⟨fb, 3, none⟩ (.slice (some ⟨g9, 0, none⟩) (j + 1) cap9)) := rF9.put 3 (.slice (some ⟨g9, 0, none⟩) (j + 1) cap9)
        have r1c := r19.other (g := fb) (by omega) 3 (.slice (some ⟨g9, 0, none⟩) (j + 1) cap9)
        have hBc := hB9.setCell (p := ⟨fb, 3, none⟩) (by show w.heap.size ≤ fb; omega) (.slice (some ⟨g9, 0, none⟩) (j + 1) cap9)
        have hzc : fb + 1 ≤ (w9.setCell ⟨fb, 3, none⟩ (.slice (some ⟨g9, 0, none⟩) (j + 1) cap9)).heap.size := by simpa using hz9
        have HREL := Lib.hid (And.intro hOa (And.intro hOb (And.intro rFc (And.intro r1c (And.intro hBc hzc)))))
        have HPN := Lib.hid hPn
        clear hO5n hO9 hOa hOb rFc r1c hBc hzc rF9 r19 hB9 hz9 hPn
        go_wp2_with fail
        go_roundw
        case rel =>
          refine ⟨j + 1, (L ++ ss), _, by omega, by go_num, ?_, ?_, HNN.out, ?_, HREL.out.1, HREL.out.2.2.1, HREL.out.2.1, HREL.out.2.2.2.2.2, HREL.out.2.2.2.1, HREL.out.2.2.2.2.1⟩
          · rw [HPN.out]; try simp
          · rw [depthL_snoc us j hlt]; congr 1; omega
          · first | (simp only [List.length_append]; omega) | omega
        case measure => simp [intOf]; omega
    · go_wp2_with fail
      refine HV.out.mono ?_
      clear HV x0 x1 x2 x3 g0 g1 g2 g3
      rintro e wV ⟨rfl, hbV⟩
      obtain ⟨_, x3, g0, g1, g2, g3⟩ := HG.out wV hbV
      go_wp2_with fail
      have hPn : (us.take (j + 1)).all Tm.validB = (true && Vj) := HALL.out
      refine (depth_any us[j] p0 p1 p2 p3 wV (HG.out wV hbV).1 HD.out).mono ?_
      clear x3 g0 g1 g2 g3
      rintro e w5 ⟨rfl, hb5⟩
      have hb5 := hbV.trans (hb5.mono hbV.size)
      obtain ⟨_, x3, g0, g1, g2, g3⟩ := HG.out w5 hb5
      go_wp2_with fail
      refine (vars_any us[j] p0 p1 p2 p3 w5 (HG.out w5 hb5).1 HD.out (by rw [nodes_count]; omega)).mono ?_
      clear x3 g0 g1 g2 g3
      rintro e w6 ⟨v6, ss, rfl, hv6, ho6, hb6⟩
      have hss := svars_len hv6
      rw [nodes_count] at hss
      have hb6 := hb5.trans (hb6.mono hb5.size)
      have hO6 := own_grow HO5.out hb6
      have hOF6 := own_grow HOF.out hb6
      have rF6 := HRF.out.grow hb6
      have r16 := HR1.out.grow hb6
      have hB6 := HBR.out.trans (hb6.mono HBR.out.size)
      have hz6 : fb + 1 ≤ w6.heap.size := by have := hb6.size; omega
      have hNn := HN.out.next hlt hv6
      have hct := countL_take us j
      have hcs := countL_snoc us j hlt
      clear hb5 hb6 hbV
      rcases ho6.2 with ⟨rfl, hs0⟩ | ⟨g, cp, cur, rfl, hgb, hgr, _⟩
      · have hss0 : ss = [] := List.length_eq_zero_iff.1 hs0
        subst hss0
        rw [List.append_nil] at hNn
        clear ho6 hs0
        have HO6 := Lib.hid hO6
        clear hO6
        go_wp2_with (at_builtin; refine wpList_append_own_none rfl _ _ 27 rfl (fb + 1) 9 i1s 1 Tryz.underlying27 HIS.out.1 _ _ _ rfl HO6.out rfl ?_)
        have hO7 := HO6.out
        clear HO6
        have hfl : fb < w6.heap.size := by omega
        have z3 := cells_at rF6 3 _ rfl
        have HO7 := Lib.hid hO7
        have HOF6 := Lib.hid hOF6
        have HRF6 := Lib.hid rF6
        have HR16 := Lib.hid r16
        have HB6 := Lib.hid hB6
        have HNN := Lib.hid hNn
        clear hO7 hOF6 rF6 r16 hB6 hNn hv6
        refine wp_region_grow_tail (by kernel_rfl) 4 (FQ [ .val (.pointer (some ⟨fb, 3, none⟩)), .val (vF), .val (.agg #[.int .u8 1, .int .i64 7, .string ⟨#[]⟩, .slice none 0 0]), .row (24) (#[.int .u8 1, .int .i64 7, .string ⟨#[]⟩, .slice none 0 0]) 1]) (FQ_grow _) (by kernel_rfl) (by kernel_rfl) (steps_to ?_) ?_
        · simp only [List.take_succ_cons, List.take_zero]
          refine ⟨?_, ?_, ?_, ?_, trivial⟩
          · intro a wx hb hd hs ho hp
            refine ⟨rfl, ?_⟩
            have h6 : a.tmps.getD 6 undef = _ := (ho 6 (by kernel_rfl)).trans rfl
            unfold Oper.wp
            go_simp
            exact Stepped.at rfl hd (Below.refl _ _) (FQ_mk (.val (.pointer (some ⟨fb, 3, none⟩))) rfl (by first | rfl | simp))
          · intro a wx hb hd hs ho hp
            refine ⟨rfl, ?_⟩
            have h51 : a.tmps.getD 51 undef = .pointer (some ⟨fb, 3, none⟩) := qval_at hp 0 51 (by kernel_rfl) rfl
            have x0 := (hb.cell (p := ⟨fb, 3, none⟩) hfl).trans z3
            unfold Oper.wp
            go_simp
            exact Stepped.at rfl hd (Below.refl _ _) (FQ_mk (.val (vF)) rfl rfl)
          · intro a wx hb hd hs ho hp
            refine ⟨rfl, ?_⟩
            unfold Oper.wp
            go_simp
            refine (num_exact 7 wx).mono ?_
            rintro e w2 ⟨rfl, hb2⟩
            exact Stepped.at rfl hd hb2 (FQ_mk (.val (.agg #[.int .u8 1, .int .i64 7, .string ⟨#[]⟩, .slice none 0 0])) rfl rfl)
          · intro a wx hb hd hs ho hp
            refine ⟨rfl, ?_⟩
            have h53 : a.tmps.getD 53 undef = .agg #[.int .u8 1, .int .i64 7, .string ⟨#[]⟩, .slice none 0 0] := qval_at hp 2 53 (by kernel_rfl) rfl
            have s53 := qslot_of (hs.trans (show _ = 151 from rfl)) (by decide) h53
            unfold Oper.wp
            go_simp
            exact Stepped.at rfl hd ((Below.refl _ _).alloc (Nat.le_refl _) _) (FQ_mk (.row (24) (#[.int .u8 1, .int .i64 7, .string ⟨#[]⟩, .slice none 0 0]) 1) rfl ⟨_, rfl, World.alloc_heap_new _ _⟩)
        intro a7 w8 hb8 hd8 hs8 ho7 hf8
        have k51 : a7.tmps.getD 51 undef = .pointer (some ⟨fb, 3, none⟩) := FQ_at (.val (.pointer (some ⟨fb, 3, none⟩))) rfl (facts_to hf8 0 51 (by decide) (by kernel_rfl))
        have k52 : a7.tmps.getD 52 undef = vF := FQ_at (.val vF) rfl (facts_to hf8 1 52 (by decide) (by kernel_rfl))
        have k53 : a7.tmps.getD 53 undef = .agg #[.int .u8 1, .int .i64 7, .string ⟨#[]⟩, .slice none 0 0] := FQ_at (.val (.agg #[.int .u8 1, .int .i64 7, .string ⟨#[]⟩, .slice none 0 0])) rfl (facts_to hf8 2 53 (by decide) (by kernel_rfl))
        obtain ⟨g8, k54, hg8⟩ : Dq.holds (a7.tmps.getD 54 undef) w8 (.row 24 #[.int .u8 1, .int .i64 7, .string ⟨#[]⟩, .slice none 0 0] 1) := FQ_at (.row 24 #[.int .u8 1, .int .i64 7, .string ⟨#[]⟩, .slice none 0 0] 1) rfl (facts_to hf8 3 54 (by decide) (by kernel_rfl))
        have hO8 := own_grow HO7.out hb8
        have hOF8 := own_grow HOF6.out hb8
        have rF8 := HRF6.out.grow hb8
        have r18 := HR16.out.grow hb8
        have hB8 := HB6.out.trans (hb8.mono HB6.out.size)
        have hz8 : fb + 1 ≤ w8.heap.size := by have := hb8.size; omega
        have hE := slots_all a7.tmps 151 (hs8.trans rfl)
        simp only [List.range, List.range.loop, List.map, k51, k52, k53, k54, ho7 0 (by kernel_rfl), ho7 1 (by kernel_rfl), ho7 2 (by kernel_rfl), ho7 3 (by kernel_rfl), ho7 4 (by kernel_rfl), ho7 5 (by kernel_rfl), ho7 6 (by kernel_rfl), ho7 7 (by kernel_rfl), ho7 8 (by kernel_rfl), ho7 9 (by kernel_rfl), ho7 10 (by kernel_rfl), ho7 11 (by kernel_rfl), ho7 12 (by kernel_rfl), ho7 13 (by kernel_rfl), ho7 14 (by kernel_rfl), ho7 15 (by kernel_rfl), ho7 16 (by kernel_rfl), ho7 17 (by kernel_rfl), ho7 18 (by kernel_rfl), ho7 19 (by kernel_rfl), ho7 20 (by kernel_rfl), ho7 21 (by kernel_rfl), ho7 22 (by kernel_rfl), ho7 23 (by kernel_rfl), ho7 24 (by kernel_rfl), ho7 25 (by kernel_rfl), ho7 26 (by kernel_rfl), ho7 27 (by kernel_rfl), ho7 28 (by kernel_rfl), ho7 29 (by kernel_rfl), ho7 30 (by kernel_rfl), ho7 31 (by kernel_rfl), ho7 32 (by kernel_rfl), ho7 33 (by kernel_rfl), ho7 34 (by kernel_rfl), ho7 35 (by kernel_rfl), ho7 36 (by kernel_rfl), ho7 37 (by kernel_rfl), ho7 38 (by kernel_rfl), ho7 39 (by kernel_rfl), ho7 40 (by kernel_rfl), ho7 41 (by kernel_rfl), ho7 42 (by kernel_rfl), ho7 43 (by kernel_rfl), ho7 44 (by kernel_rfl), ho7 45 (by kernel_rfl), ho7 46 (by kernel_rfl), ho7 47 (by kernel_rfl), ho7 48 (by kernel_rfl), ho7 49 (by kernel_rfl), ho7 50 (by kernel_rfl), ho7 55 (by kernel_rfl), ho7 56 (by kernel_rfl), ho7 57 (by kernel_rfl), ho7 58 (by kernel_rfl), ho7 59 (by kernel_rfl), ho7 60 (by kernel_rfl), ho7 61 (by kernel_rfl), ho7 62 (by kernel_rfl), ho7 63 (by kernel_rfl), ho7 64 (by kernel_rfl), ho7 65 (by kernel_rfl), ho7 66 (by kernel_rfl), ho7 67 (by kernel_rfl), ho7 68 (by kernel_rfl), ho7 69 (by kernel_rfl), ho7 70 (by kernel_rfl), ho7 71 (by kernel_rfl), ho7 72 (by kernel_rfl), ho7 73 (by kernel_rfl), ho7 74 (by kernel_rfl), ho7 75 (by kernel_rfl), ho7 76 (by kernel_rfl), ho7 77 (by kernel_rfl), ho7 78 (by kernel_rfl), ho7 79 (by kernel_rfl), ho7 80 (by kernel_rfl), ho7 81 (by kernel_rfl), ho7 82 (by kernel_rfl), ho7 83 (by kernel_rfl), ho7 84 (by kernel_rfl), ho7 85 (by kernel_rfl), ho7 86 (by kernel_rfl), ho7 87 (by kernel_rfl), ho7 88 (by kernel_rfl), ho7 89 (by kernel_rfl), ho7 90 (by kernel_rfl), ho7 91 (by kernel_rfl), ho7 92 (by kernel_rfl), ho7 93 (by kernel_rfl), ho7 94 (by kernel_rfl), ho7 95 (by kernel_rfl), ho7 96 (by kernel_rfl), ho7 97 (by kernel_rfl), ho7 98 (by kernel_rfl), ho7 99 (by kernel_rfl), ho7 100 (by kernel_rfl), ho7 101 (by kernel_rfl), ho7 102 (by kernel_rfl), ho7 103 (by kernel_rfl), ho7 104 (by kernel_rfl), ho7 105 (by kernel_rfl), ho7 106 (by kernel_rfl), ho7 107 (by kernel_rfl), ho7 108 (by kernel_rfl), ho7 109 (by kernel_rfl), ho7 110 (by kernel_rfl), ho7 111 (by kernel_rfl), ho7 112 (by kernel_rfl), ho7 113 (by kernel_rfl), ho7 114 (by kernel_rfl), ho7 115 (by kernel_rfl), ho7 116 (by kernel_rfl), ho7 117 (by kernel_rfl), ho7 118 (by kernel_rfl), ho7 119 (by kernel_rfl), ho7 120 (by kernel_rfl), ho7 121 (by kernel_rfl), ho7 122 (by kernel_rfl), ho7 123 (by kernel_rfl), ho7 124 (by kernel_rfl), ho7 125 (by kernel_rfl), ho7 126 (by kernel_rfl), ho7 127 (by kernel_rfl), ho7 128 (by kernel_rfl), ho7 129 (by kernel_rfl), ho7 130 (by kernel_rfl), ho7 131 (by kernel_rfl), ho7 132 (by kernel_rfl), ho7 133 (by kernel_rfl), ho7 134 (by kernel_rfl), ho7 135 (by kernel_rfl), ho7 136 (by kernel_rfl), ho7 137 (by kernel_rfl), ho7 138 (by kernel_rfl), ho7 139 (by kernel_rfl), ho7 140 (by kernel_rfl), ho7 141 (by kernel_rfl), ho7 142 (by kernel_rfl), ho7 143 (by kernel_rfl), ho7 144 (by kernel_rfl), ho7 145 (by kernel_rfl), ho7 146 (by kernel_rfl), ho7 147 (by kernel_rfl), ho7 148 (by kernel_rfl), ho7 149 (by kernel_rfl), ho7 150 (by kernel_rfl)] at hE
        obtain ⟨T7, D7⟩ := a7
        simp only at hE hd8
        subst hd8 hE
        clear k51 k52 k53 k54 hf8 hs8 ho7 z3 hfl hb8 HO7 HOF6 HRF6 HR16 HB6
        have HOF8 := Lib.hid hOF8
        have HO8 := Lib.hid hO8
        have HG8 := Lib.hid hg8
        clear hOF8 hO8 hg8
        simp only [List.drop_succ_cons, List.drop_zero]
        refine wpList_append_own _ rfl _ _ 22 rfl (fb + 1) 24 i1t (.agg #[.int .u8 0, .int .i64 0, .string ⟨#[]⟩, .slice none 0 0]) 4 56 Tryz.underlying22 HIT.out.1 HIT.out.2.1 HIT.out.2.2.1 HIT.out.2.2.2 rfl (by decide) _ _ _ rfl HOF8.out ⟨g8, 0, none⟩ 1 1 [.int .u8 1, .int .i64 7, .string ⟨#[]⟩, .slice none 0 0] rfl rfl ?d1 ?d2 ?d3 ?d4 ?d5 ?_
        case d1 =>
          intro i u hj
          match i, hj with
          | 0, hj | 1, hj | 2, hj | 3, hj => simp at hj; subst hj; exact cells_at HG8.out _ _ rfl
        case d2 => intro u hu; simp at hu; rcases hu with rfl | rfl | rfl | rfl <;> rfl
        case d3 => unfold maxLen; omega
        case d4 => omega
        case d5 => exact hz8
        intro v9 w9 hO9 hg9 _
        have hob := HOF8.out.lt
        have hap := rows_apart HO8.out HOF8.out (by decide)
        have rF9 : HasRow fb #[.int .u8 k, .int .i64 n, .string s, vF] w9 := (hg9.block fb (by omega) (fun e => by have := (hob _ e.symm).1; omega)).trans rF8
        have r19 : HasRow w.heap.size #[.int .u8 k, .int .i64 n, .string s, .slice (some ⟨b, off, none⟩) us.length cap] w9 := (hg9.block w.heap.size (by omega) (fun e => by have := (hob _ e.symm).1; omega)).trans r18
        have hO5n := HO8.out.kept hg9 hap
        have hB9 := hB8.grown hg9 hB8.size (fun k e => by have := (hob k e).1; omega)
        have hz9 : fb + 1 ≤ w9.heap.size := Nat.le_trans hz8 hg9.size
        rw [← sevens_next] at hO9
        obtain ⟨g9, cap9, rfl⟩ : ∃ g c, v9 = .slice (some ⟨g, 0, none⟩) (j + 1) c := by
          rcases hO9.2 with ⟨_, h0⟩ | ⟨g, c, cur, rfl, _⟩
          · omega
          · exact ⟨g, c, rfl⟩
        clear HOF8 HO8 HG8 hg9 hob hap rF8 r18 hB8 hz8
        have q0 := cells_at rF9 3 _ rfl
        have q1 := rF9.free 3
        have hOa := ownsRow_setCell_below hO5n (a := ⟨fb, 3, none⟩) (Nat.lt_succ_self fb) (.slice (some ⟨g9, 0, none⟩) (j + 1) cap9)
        have hOb := ownsRow_setCell_below hO9 (a := ⟨fb, 3, none⟩) (Nat.lt_succ_self fb) (.slice (some ⟨g9, 0, none⟩) (j + 1) cap9)
        have rFc : HasRow fb #[.int .u8 k, .int .i64 n, .string s, .slice (some ⟨g9, 0, none⟩) (j + 1) cap9] (w9.setCell ⟨fb, 3, none⟩ (.slice (some ⟨g9, 0, none⟩) (j + 1) cap9)) := rF9.put 3 (.slice (some ⟨g9, 0, none⟩) (j + 1) cap9)
        have r1c := r19.other (g := fb) (by omega) 3 (.slice (some ⟨g9, 0, none⟩) (j + 1) cap9)
        have hBc := hB9.setCell (p := ⟨fb, 3, none⟩) (by show w.heap.size ≤ fb; omega) (.slice (some ⟨g9, 0, none⟩) (j + 1) cap9)
        have hzc : fb + 1 ≤ (w9.setCell ⟨fb, 3, none⟩ (.slice (some ⟨g9, 0, none⟩) (j + 1) cap9)).heap.size := by simpa using hz9
        have HREL := Lib.hid (And.intro hOa (And.intro hOb (And.intro rFc (And.intro r1c (And.intro hBc hzc)))))
        have HPN := Lib.hid hPn
        clear hO5n hO9 hOa hOb rFc r1c hBc hzc rF9 r19 hB9 hz9 hPn
        go_wp2_with fail
        go_roundw
        case rel =>
          refine ⟨j + 1, L, _, by omega, by go_num, ?_, ?_, HNN.out, ?_, HREL.out.1, HREL.out.2.2.1, HREL.out.2.1, HREL.out.2.2.2.2.2, HREL.out.2.2.2.1, HREL.out.2.2.2.2.1⟩
          · rw [HPN.out]; try simp
          · rw [depthL_snoc us j hlt]; congr 1; omega
          · first | (simp only [List.length_append]; omega) | omega
        case measure => simp [intOf]; omega
      · have HO6 := Lib.hid hO6
        have HC6 := Lib.hid (ho6.cells (g := g) rfl)
        clear ho6 hgr hO6
        go_wp2_with (at_builtin; refine wpList_append_own _ rfl _ _ 27 rfl (fb + 1) 9 i1s (.string ⟨#[]⟩) 1 16 Tryz.underlying27 HIS.out.1 HIS.out.2.1 HIS.out.2.2.1 HIS.out.2.2.2 rfl (by decide) _ _ _ rfl HO6.out ⟨g, 0, none⟩ ss.length cp (ss.map encStr) rfl ?c0 ?c1 ?c2 ?c3 ?c4 ?c5 ?_)
        case c0 => simp
        case c1 => exact HC6.out
        case c2 => intro u hu; obtain ⟨x, _, rfl⟩ := List.mem_map.1 hu; rfl
        case c3 => unfold maxLen; omega
        case c4 => omega
        case c5 => exact hz6
        intro v7 w7 hO7 hg7 _
        have hob := HO6.out.lt
        have hap := rows_apart hOF6 HO6.out (by decide)
        have rF6 : HasRow fb #[.int .u8 k, .int .i64 n, .string s, vF] w7 := (hg7.block fb (by omega) (fun e => by have := (hob _ e.symm).1; omega)).trans rF6
        have r16 : HasRow w.heap.size #[.int .u8 k, .int .i64 n, .string s, .slice (some ⟨b, off, none⟩) us.length cap] w7 := (hg7.block w.heap.size (by omega) (fun e => by have := (hob _ e.symm).1; omega)).trans r16
        have hOF6 := hOF6.kept hg7 hap
        have hB6 := hB6.grown hg7 hB6.size (fun k e => by have := (hob k e).1; omega)
        have hz6 : fb + 1 ≤ w7.heap.size := Nat.le_trans hz6 hg7.size
        have hO7 : w7.ownsRow (fb + 1) 9 1 v7 (L ++ ss).length ((L ++ ss).map encStr) := by
          rw [List.length_append, List.map_append]; exact hO7
        clear HO6 HC6 hg7 hob hap
        go_wp2_with fail
        have hfl : fb < w7.heap.size := by omega
        have z3 := cells_at rF6 3 _ rfl
        have HO7 := Lib.hid hO7
        have HOF6 := Lib.hid hOF6
        have HRF6 := Lib.hid rF6
        have HR16 := Lib.hid r16
        have HB6 := Lib.hid hB6
        have HNN := Lib.hid hNn
        clear hO7 hOF6 rF6 r16 hB6 hNn hv6
        refine wp_region_grow_tail (by kernel_rfl) 4 (FQ [ .val (.pointer (some ⟨fb, 3, none⟩)), .val (vF), .val (.agg #[.int .u8 1, .int .i64 7, .string ⟨#[]⟩, .slice none 0 0]), .row (24) (#[.int .u8 1, .int .i64 7, .string ⟨#[]⟩, .slice none 0 0]) 1]) (FQ_grow _) (by kernel_rfl) (by kernel_rfl) (steps_to ?_) ?_
        · simp only [List.take_succ_cons, List.take_zero]
          refine ⟨?_, ?_, ?_, ?_, trivial⟩
          · intro a wx hb hd hs ho hp
            refine ⟨rfl, ?_⟩
            have h6 : a.tmps.getD 6 undef = _ := (ho 6 (by kernel_rfl)).trans rfl
            unfold Oper.wp
            go_simp
            exact Stepped.at rfl hd (Below.refl _ _) (FQ_mk (.val (.pointer (some ⟨fb, 3, none⟩))) rfl (by first | rfl | simp))
          · intro a wx hb hd hs ho hp
            refine ⟨rfl, ?_⟩
            have h51 : a.tmps.getD 51 undef = .pointer (some ⟨fb, 3, none⟩) := qval_at hp 0 51 (by kernel_rfl) rfl
            have x0 := (hb.cell (p := ⟨fb, 3, none⟩) hfl).trans z3
            unfold Oper.wp
            go_simp
            exact Stepped.at rfl hd (Below.refl _ _) (FQ_mk (.val (vF)) rfl rfl)
          · intro a wx hb hd hs ho hp
            refine ⟨rfl, ?_⟩
            unfold Oper.wp
            go_simp
            refine (num_exact 7 wx).mono ?_
            rintro e w2 ⟨rfl, hb2⟩
            exact Stepped.at rfl hd hb2 (FQ_mk (.val (.agg #[.int .u8 1, .int .i64 7, .string ⟨#[]⟩, .slice none 0 0])) rfl rfl)
          · intro a wx hb hd hs ho hp
            refine ⟨rfl, ?_⟩
            have h53 : a.tmps.getD 53 undef = .agg #[.int .u8 1, .int .i64 7, .string ⟨#[]⟩, .slice none 0 0] := qval_at hp 2 53 (by kernel_rfl) rfl
            have s53 := qslot_of (hs.trans (show _ = 151 from rfl)) (by decide) h53
            unfold Oper.wp
            go_simp
            exact Stepped.at rfl hd ((Below.refl _ _).alloc (Nat.le_refl _) _) (FQ_mk (.row (24) (#[.int .u8 1, .int .i64 7, .string ⟨#[]⟩, .slice none 0 0]) 1) rfl ⟨_, rfl, World.alloc_heap_new _ _⟩)
        intro a7 w8 hb8 hd8 hs8 ho7 hf8
        have k51 : a7.tmps.getD 51 undef = .pointer (some ⟨fb, 3, none⟩) := FQ_at (.val (.pointer (some ⟨fb, 3, none⟩))) rfl (facts_to hf8 0 51 (by decide) (by kernel_rfl))
        have k52 : a7.tmps.getD 52 undef = vF := FQ_at (.val vF) rfl (facts_to hf8 1 52 (by decide) (by kernel_rfl))
        have k53 : a7.tmps.getD 53 undef = .agg #[.int .u8 1, .int .i64 7, .string ⟨#[]⟩, .slice none 0 0] := FQ_at (.val (.agg #[.int .u8 1, .int .i64 7, .string ⟨#[]⟩, .slice none 0 0])) rfl (facts_to hf8 2 53 (by decide) (by kernel_rfl))
        obtain ⟨g8, k54, hg8⟩ : Dq.holds (a7.tmps.getD 54 undef) w8 (.row 24 #[.int .u8 1, .int .i64 7, .string ⟨#[]⟩, .slice none 0 0] 1) := FQ_at (.row 24 #[.int .u8 1, .int .i64 7, .string ⟨#[]⟩, .slice none 0 0] 1) rfl (facts_to hf8 3 54 (by decide) (by kernel_rfl))
        have hO8 := own_grow HO7.out hb8
        have hOF8 := own_grow HOF6.out hb8
        have rF8 := HRF6.out.grow hb8
        have r18 := HR16.out.grow hb8
        have hB8 := HB6.out.trans (hb8.mono HB6.out.size)
        have hz8 : fb + 1 ≤ w8.heap.size := by have := hb8.size; omega
        have hE := slots_all a7.tmps 151 (hs8.trans rfl)
        simp only [List.range, List.range.loop, List.map, k51, k52, k53, k54, ho7 0 (by kernel_rfl), ho7 1 (by kernel_rfl), ho7 2 (by kernel_rfl), ho7 3 (by kernel_rfl), ho7 4 (by kernel_rfl), ho7 5 (by kernel_rfl), ho7 6 (by kernel_rfl), ho7 7 (by kernel_rfl), ho7 8 (by kernel_rfl), ho7 9 (by kernel_rfl), ho7 10 (by kernel_rfl), ho7 11 (by kernel_rfl), ho7 12 (by kernel_rfl), ho7 13 (by kernel_rfl), ho7 14 (by kernel_rfl), ho7 15 (by kernel_rfl), ho7 16 (by kernel_rfl), ho7 17 (by kernel_rfl), ho7 18 (by kernel_rfl), ho7 19 (by kernel_rfl), ho7 20 (by kernel_rfl), ho7 21 (by kernel_rfl), ho7 22 (by kernel_rfl), ho7 23 (by kernel_rfl), ho7 24 (by kernel_rfl), ho7 25 (by kernel_rfl), ho7 26 (by kernel_rfl), ho7 27 (by kernel_rfl), ho7 28 (by kernel_rfl), ho7 29 (by kernel_rfl), ho7 30 (by kernel_rfl), ho7 31 (by kernel_rfl), ho7 32 (by kernel_rfl), ho7 33 (by kernel_rfl), ho7 34 (by kernel_rfl), ho7 35 (by kernel_rfl), ho7 36 (by kernel_rfl), ho7 37 (by kernel_rfl), ho7 38 (by kernel_rfl), ho7 39 (by kernel_rfl), ho7 40 (by kernel_rfl), ho7 41 (by kernel_rfl), ho7 42 (by kernel_rfl), ho7 43 (by kernel_rfl), ho7 44 (by kernel_rfl), ho7 45 (by kernel_rfl), ho7 46 (by kernel_rfl), ho7 47 (by kernel_rfl), ho7 48 (by kernel_rfl), ho7 49 (by kernel_rfl), ho7 50 (by kernel_rfl), ho7 55 (by kernel_rfl), ho7 56 (by kernel_rfl), ho7 57 (by kernel_rfl), ho7 58 (by kernel_rfl), ho7 59 (by kernel_rfl), ho7 60 (by kernel_rfl), ho7 61 (by kernel_rfl), ho7 62 (by kernel_rfl), ho7 63 (by kernel_rfl), ho7 64 (by kernel_rfl), ho7 65 (by kernel_rfl), ho7 66 (by kernel_rfl), ho7 67 (by kernel_rfl), ho7 68 (by kernel_rfl), ho7 69 (by kernel_rfl), ho7 70 (by kernel_rfl), ho7 71 (by kernel_rfl), ho7 72 (by kernel_rfl), ho7 73 (by kernel_rfl), ho7 74 (by kernel_rfl), ho7 75 (by kernel_rfl), ho7 76 (by kernel_rfl), ho7 77 (by kernel_rfl), ho7 78 (by kernel_rfl), ho7 79 (by kernel_rfl), ho7 80 (by kernel_rfl), ho7 81 (by kernel_rfl), ho7 82 (by kernel_rfl), ho7 83 (by kernel_rfl), ho7 84 (by kernel_rfl), ho7 85 (by kernel_rfl), ho7 86 (by kernel_rfl), ho7 87 (by kernel_rfl), ho7 88 (by kernel_rfl), ho7 89 (by kernel_rfl), ho7 90 (by kernel_rfl), ho7 91 (by kernel_rfl), ho7 92 (by kernel_rfl), ho7 93 (by kernel_rfl), ho7 94 (by kernel_rfl), ho7 95 (by kernel_rfl), ho7 96 (by kernel_rfl), ho7 97 (by kernel_rfl), ho7 98 (by kernel_rfl), ho7 99 (by kernel_rfl), ho7 100 (by kernel_rfl), ho7 101 (by kernel_rfl), ho7 102 (by kernel_rfl), ho7 103 (by kernel_rfl), ho7 104 (by kernel_rfl), ho7 105 (by kernel_rfl), ho7 106 (by kernel_rfl), ho7 107 (by kernel_rfl), ho7 108 (by kernel_rfl), ho7 109 (by kernel_rfl), ho7 110 (by kernel_rfl), ho7 111 (by kernel_rfl), ho7 112 (by kernel_rfl), ho7 113 (by kernel_rfl), ho7 114 (by kernel_rfl), ho7 115 (by kernel_rfl), ho7 116 (by kernel_rfl), ho7 117 (by kernel_rfl), ho7 118 (by kernel_rfl), ho7 119 (by kernel_rfl), ho7 120 (by kernel_rfl), ho7 121 (by kernel_rfl), ho7 122 (by kernel_rfl), ho7 123 (by kernel_rfl), ho7 124 (by kernel_rfl), ho7 125 (by kernel_rfl), ho7 126 (by kernel_rfl), ho7 127 (by kernel_rfl), ho7 128 (by kernel_rfl), ho7 129 (by kernel_rfl), ho7 130 (by kernel_rfl), ho7 131 (by kernel_rfl), ho7 132 (by kernel_rfl), ho7 133 (by kernel_rfl), ho7 134 (by kernel_rfl), ho7 135 (by kernel_rfl), ho7 136 (by kernel_rfl), ho7 137 (by kernel_rfl), ho7 138 (by kernel_rfl), ho7 139 (by kernel_rfl), ho7 140 (by kernel_rfl), ho7 141 (by kernel_rfl), ho7 142 (by kernel_rfl), ho7 143 (by kernel_rfl), ho7 144 (by kernel_rfl), ho7 145 (by kernel_rfl), ho7 146 (by kernel_rfl), ho7 147 (by kernel_rfl), ho7 148 (by kernel_rfl), ho7 149 (by kernel_rfl), ho7 150 (by kernel_rfl)] at hE
        obtain ⟨T7, D7⟩ := a7
        simp only at hE hd8
        subst hd8 hE
        clear k51 k52 k53 k54 hf8 hs8 ho7 z3 hfl hb8 HO7 HOF6 HRF6 HR16 HB6
        have HOF8 := Lib.hid hOF8
        have HO8 := Lib.hid hO8
        have HG8 := Lib.hid hg8
        clear hOF8 hO8 hg8
        simp only [List.drop_succ_cons, List.drop_zero]
        refine wpList_append_own _ rfl _ _ 22 rfl (fb + 1) 24 i1t (.agg #[.int .u8 0, .int .i64 0, .string ⟨#[]⟩, .slice none 0 0]) 4 56 Tryz.underlying22 HIT.out.1 HIT.out.2.1 HIT.out.2.2.1 HIT.out.2.2.2 rfl (by decide) _ _ _ rfl HOF8.out ⟨g8, 0, none⟩ 1 1 [.int .u8 1, .int .i64 7, .string ⟨#[]⟩, .slice none 0 0] rfl rfl ?d1 ?d2 ?d3 ?d4 ?d5 ?_
        case d1 =>
          intro i u hj
          match i, hj with
          | 0, hj | 1, hj | 2, hj | 3, hj => simp at hj; subst hj; exact cells_at HG8.out _ _ rfl
        case d2 => intro u hu; simp at hu; rcases hu with rfl | rfl | rfl | rfl <;> rfl
        case d3 => unfold maxLen; omega
        case d4 => omega
        case d5 => exact hz8
        intro v9 w9 hO9 hg9 _
        have hob := HOF8.out.lt
        have hap := rows_apart HO8.out HOF8.out (by decide)
        have rF9 : HasRow fb #[.int .u8 k, .int .i64 n, .string s, vF] w9 := (hg9.block fb (by omega) (fun e => by have := (hob _ e.symm).1; omega)).trans rF8
        have r19 : HasRow w.heap.size #[.int .u8 k, .int .i64 n, .string s, .slice (some ⟨b, off, none⟩) us.length cap] w9 := (hg9.block w.heap.size (by omega) (fun e => by have := (hob _ e.symm).1; omega)).trans r18
        have hO5n := HO8.out.kept hg9 hap
        have hB9 := hB8.grown hg9 hB8.size (fun k e => by have := (hob k e).1; omega)
        have hz9 : fb + 1 ≤ w9.heap.size := Nat.le_trans hz8 hg9.size
        rw [← sevens_next] at hO9
        obtain ⟨g9, cap9, rfl⟩ : ∃ g c, v9 = .slice (some ⟨g, 0, none⟩) (j + 1) c := by
          rcases hO9.2 with ⟨_, h0⟩ | ⟨g, c, cur, rfl, _⟩
          · omega
          · exact ⟨g, c, rfl⟩
        clear HOF8 HO8 HG8 hg9 hob hap rF8 r18 hB8 hz8
        have q0 := cells_at rF9 3 _ rfl
        have q1 := rF9.free 3
        have hOa := ownsRow_setCell_below hO5n (a := ⟨fb, 3, none⟩) (Nat.lt_succ_self fb) (.slice (some ⟨g9, 0, none⟩) (j + 1) cap9)
        have hOb := ownsRow_setCell_below hO9 (a := ⟨fb, 3, none⟩) (Nat.lt_succ_self fb) (.slice (some ⟨g9, 0, none⟩) (j + 1) cap9)
        have rFc : HasRow fb #[.int .u8 k, .int .i64 n, .string s, .slice (some ⟨g9, 0, none⟩) (j + 1) cap9] (w9.setCell ⟨fb, 3, none⟩ (.slice (some ⟨g9, 0, none⟩) (j + 1) cap9)) := rF9.put 3 (.slice (some ⟨g9, 0, none⟩) (j + 1) cap9)
        have r1c := r19.other (g := fb) (by omega) 3 (.slice (some ⟨g9, 0, none⟩) (j + 1) cap9)
        have hBc := hB9.setCell (p := ⟨fb, 3, none⟩) (by show w.heap.size ≤ fb; omega) (.slice (some ⟨g9, 0, none⟩) (j + 1) cap9)
        have hzc : fb + 1 ≤ (w9.setCell ⟨fb, 3, none⟩ (.slice (some ⟨g9, 0, none⟩) (j + 1) cap9)).heap.size := by simpa using hz9
        have HREL := Lib.hid (And.intro hOa (And.intro hOb (And.intro rFc (And.intro r1c (And.intro hBc hzc)))))
        have HPN := Lib.hid hPn
        clear hO5n hO9 hOa hOb rFc r1c hBc hzc rF9 r19 hB9 hz9 hPn
        go_wp2_with fail
        go_roundw
        case rel =>
          refine ⟨j + 1, (L ++ ss), _, by omega, by go_num, ?_, ?_, HNN.out, ?_, HREL.out.1, HREL.out.2.2.1, HREL.out.2.1, HREL.out.2.2.2.2.2, HREL.out.2.2.2.1, HREL.out.2.2.2.2.1⟩
          · rw [HPN.out]; try simp
          · rw [depthL_snoc us j hlt]; congr 1; omega
          · first | (simp only [List.length_append]; omega) | omega
        case measure => simp [intOf]; omega
end Go.Proofs.YtlnlpljeflfgbaaGreatDoor
