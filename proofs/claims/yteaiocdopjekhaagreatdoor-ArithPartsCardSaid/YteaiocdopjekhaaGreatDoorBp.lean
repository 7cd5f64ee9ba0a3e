/- The law of parts: its walk. -/
import Derived.Test.YteaiocdopjekhaaGreatDoorBn
import Derived.Test.YteaiocdopjekhaaGreatDoorAz
import Derived.Test.YteaiocdopjekhaaGreatDoorRi
import Derived.Test.YteaiocdopjekhaaGreatDoorRm
import Derived.IntWalk
namespace Go.Proofs.YteaiocdopjekhaaGreatDoor
open Go.RowKit Go.Shelf

def bpDescs9 (k n nv kv : Int) (s sv : ByteArray) (us vs : List Tm) (a va ea : Option Addr) (cap vcap ecap n1 n3 _ : Nat) (VT ET BV BK : Bool) (B76 : Bool) : List Du := [.val (.bool (true)), .val (.bool (!(true))), .val (.bool (!(true))), .val (cond (gon (true) (!(true)) false) (.agg #[.int .u8 kv, .int .i64 nv, .string sv, .slice va vs.length vcap]) undef), .val (cond (gon (true) (!(true)) false) (.agg #[.int .u8 kv, .int .i64 nv, .string sv, .slice ea vs.length ecap]) undef), .val (cond (gon (true) (!(true)) false) (.bool (true)) undef), .val (cond (gon (true) (!(true)) false) (.bool (!(true))) undef), .val (.bool ((!(true) || !(true)))), .val (.bool ((!(true) || !(true)))), .val (cond (gon (true) ((!(true) || !(true))) false) (.agg #[.int .u8 kv, .int .i64 nv, .string sv, .slice va vs.length vcap]) undef), .val (cond (gon (true) ((!(true) || !(true))) false) (.bool (true)) undef), .val (cond (gon (true) ((!(true) || !(true))) false) (.bool (!(true))) undef), .val (.bool (((!(true) || !(true)) || !(true)))), .val (.bool (((!(true) || !(true)) || !(true)))), .val (cond (gon (true) (((!(true) || !(true)) || !(true))) false) (.agg #[.int .u8 k, .int .i64 n, .string s, .slice a us.length cap]) undef), .val (cond (gon (true) (((!(true) || !(true)) || !(true))) false) (.bool (VT)) undef), .val (cond (gon (true) (((!(true) || !(true)) || !(true))) false) (.bool (VT)) undef), .val (cond (gon (gon (true) (((!(true) || !(true)) || !(true))) false) (VT) true) (.agg #[.int .u8 k, .int .i64 n, .string s, .slice a us.length cap]) undef), .val (cond (gon (gon (true) (((!(true) || !(true)) || !(true))) false) (VT) true) (.agg #[.int .u8 kv, .int .i64 nv, .string sv, .slice va vs.length vcap]) undef), .val (cond (gon (gon (true) (((!(true) || !(true)) || !(true))) false) (VT) true) (.bool (ET)) undef), .val (cond (gon (gon (true) (((!(true) || !(true)) || !(true))) false) (VT) true) (.bool (!(ET))) undef), .val (cond (gon (true) (((!(true) || !(true)) || !(true))) false) (.bool ((VT && !(ET)))) undef), .val (.bool ((((!(true) || !(true)) || !(true)) || (VT && !(ET))))), .val (.bool ((((!(true) || !(true)) || !(true)) || (VT && !(ET))))), .val (cond (gon (true) ((((!(true) || !(true)) || !(true)) || (VT && !(ET)))) false) (.pointer (some ⟨n3, 0, none⟩)) undef), .val (cond (gon (true) ((((!(true) || !(true)) || !(true)) || (VT && !(ET)))) false) (.int .u8 kv) undef), .val (cond (gon (true) ((((!(true) || !(true)) || !(true)) || (VT && !(ET)))) false) (.bool (BV)) undef), .val (cond (gon (true) ((((!(true) || !(true)) || !(true)) || (VT && !(ET)))) false) (.bool (BV)) undef), .val (cond (gon (gon (true) ((((!(true) || !(true)) || !(true)) || (VT && !(ET)))) false) (BV) true) (.pointer (some ⟨n1, 0, none⟩)) undef), .val (cond (gon (gon (true) ((((!(true) || !(true)) || !(true)) || (VT && !(ET)))) false) (BV) true) (.int .u8 k) undef), .val (cond (gon (gon (true) ((((!(true) || !(true)) || !(true)) || (VT && !(ET)))) false) (BV) true) (.bool (BK)) undef), .val (cond (gon (gon (true) ((((!(true) || !(true)) || !(true)) || (VT && !(ET)))) false) (BV) true) (.bool (BK)) undef), .val (cond (gon (gon (gon (true) ((((!(true) || !(true)) || !(true)) || (VT && !(ET)))) false) (BV) true) (BK) false) (.pointer (some ⟨n3, 3, none⟩)) undef), .val (cond (gon (gon (gon (true) ((((!(true) || !(true)) || !(true)) || (VT && !(ET)))) false) (BV) true) (BK) false) (.slice va vs.length vcap) undef), .val (cond (gon (gon (gon (true) ((((!(true) || !(true)) || !(true)) || (VT && !(ET)))) false) (BV) true) (BK) false) (.int .i64 ((vs.length : Int))) undef), .val (cond (gon (gon (gon (true) ((((!(true) || !(true)) || !(true)) || (VT && !(ET)))) false) (BV) true) (BK) false) (.pointer (some ⟨n1, 3, none⟩)) undef), .val (cond (gon (gon (gon (true) ((((!(true) || !(true)) || !(true)) || (VT && !(ET)))) false) (BV) true) (BK) false) (.slice a us.length cap) undef), .val (cond (gon (gon (gon (true) ((((!(true) || !(true)) || !(true)) || (VT && !(ET)))) false) (BV) true) (BK) false) (.int .i64 ((us.length : Int))) undef), .val (cond (gon (gon (gon (true) ((((!(true) || !(true)) || !(true)) || (VT && !(ET)))) false) (BV) true) (BK) false) (.bool (B76)) undef), .val (cond (gon (gon (true) ((((!(true) || !(true)) || !(true)) || (VT && !(ET)))) false) (BV) true) (.bool ((BK || B76))) undef), .val (cond (gon (true) ((((!(true) || !(true)) || !(true)) || (VT && !(ET)))) false) (.bool ((BV && (BK || B76)))) undef), .val (.bool (((((!(true) || !(true)) || !(true)) || (VT && !(ET))) || (BV && (BK || B76)))))]
def bpDescs16 (k _ _ _ kx nx : Int) (_ _ sx : ByteArray) (_ vs ys : List Tm) (_ va xa : Option Addr) (_ vcap xcap n1 n3 _ j vb vo : Nat) (q0 q1 q2 q3 : Value) (BK4 : Bool)  : List Du := [.val (.bool (true)), .val (.bool (!(true))), .val (.bool (!(true))), .val (cond (gon (true) (!(true)) false) (.pointer (some ⟨n1, 0, none⟩)) undef), .val (cond (gon (true) (!(true)) false) (.int .u8 k) undef), .val (cond (gon (true) (!(true)) false) (.bool (BK4)) undef), .val (cond (gon (true) (!(true)) false) (.bool (BK4)) undef), .val (cond (gon (gon (true) (!(true)) false) (BK4) true) (.agg #[.int .u8 kx, .int .i64 nx, .string sx, .slice xa ys.length xcap]) undef), .val (cond (gon (gon (true) (!(true)) false) (BK4) true) (.pointer (some ⟨n3, 3, none⟩)) undef), .val (cond (gon (gon (true) (!(true)) false) (BK4) true) (.slice va vs.length vcap) undef), .val (cond (gon (gon (true) (!(true)) false) (BK4) true) (.int .i64 ((j : Int))) undef), .val (cond (gon (gon (true) (!(true)) false) (BK4) true) (.pointer (some ⟨vb, vo + j * 4, none⟩)) undef), .val (cond (gon (gon (true) (!(true)) false) (BK4) true) (.agg #[q0, q1, q2, q3]) undef), .val (cond (gon (gon (true) (!(true)) false) (BK4) true) (.bool (true)) undef), .val (cond (gon (gon (true) (!(true)) false) (BK4) true) (.bool (!(true))) undef), .val (cond (gon (true) (!(true)) false) (.bool ((BK4 && !(true)))) undef), .val (.bool ((!(true) || (BK4 && !(true)))))]
def bpDescs22 (nv : Int) (va : Option Addr) (vcap _ : Nat)  : List Du := [.val (.bool (true)), .val (.bool (true)), .val (cond (gon (true) (true) true) (.agg #[.int .u8 1, .int .i64 nv, .string ⟨#[]⟩, .slice va ([] : List Tm).length vcap]) undef), .val (cond (gon (true) (true) true) (.int .i64 (nv)) undef), .val (cond (gon (true) (true) true) (.agg #[.int .u8 1, .int .i64 nv, .string ⟨#[]⟩, .slice none 0 0]) undef), .val (cond (gon (true) (true) true) (.bool (true)) undef), .val (.bool ((true && true))), .val (.bool ((true && true)))]
set_option maxRecDepth 100000 in
set_option maxHeartbeats 40000000 in
theorem arith_parts_any (k n : Int) (s : ByteArray) (us : List Tm) (c0 c1 c2 c3 : Value) (w : World) (hT0 : IsTm w.heap.size w c0 c1 c2 c3 (.mk k n s us))
    (HAW0 : ∀ w, Calls Tryz.prog 8 #[] w fun e w' => e = .returned (.bool true) ∧ Below w.heap.size w w') :
    Calls Tryz.prog 6 #[.agg #[c0, c1, c2, c3]] w fun e w' => e = .returned (.bool true) ∧ Below w.heap.size w w' := by
  have hT1 := hT0
  simp only [IsTm] at hT1
  obtain ⟨rfl, hk, rfl, hn, rfl, hs, a, cap, rfl, hl, hargs⟩ := hT1
  have HT := Lib.hid hT0
  have HAW := Lib.hid HAW0
  have HKK := Lib.hid hk
  have HN := Lib.hid hn
  have HS := Lib.hid hs
  have HARG := Lib.hid hargs
  have hB0 : Below w.heap.size w (w.alloc (.cells #[.int .u8 k, .int .i64 n, .string s, .slice a us.length cap] 32)) := (Below.refl _ w).alloc (Nat.le_refl _) _
  have r1 : Row4 w.heap.size #[.int .u8 k, .int .i64 n, .string s, .slice a us.length cap] (w.alloc (.cells #[.int .u8 k, .int .i64 n, .string s, .slice a us.length cap] 32)) := Row4.new w _
  clear hT0 HAW0 hk hn hs hargs
  obtain ⟨n1, hn1⟩ : ∃ n1, w.heap.size = n1 := ⟨_, rfl⟩
  go_enter Tryz.func6, Tryz.ntmps6
  refine wp_seq_k fun K hK => ?_
  have HK := Lib.hid hK
  clear hK
  go_wp2_with fail
  revert hB0 r1
  generalize (w.alloc (.cells #[.int .u8 k, .int .i64 n, .string s, .slice a us.length cap] 32)) = W0
  intro hB0 r1
  rw [hn1] at r1
  have Q1 := Lib.hid r1
  have BW := Lib.hid hB0
  clear r1 hB0
  refine HK.out _ _ ?_
  clear HK
  refine wp_seq_k fun K hK => ?_
  have HK := Lib.hid hK
  clear hK
  go_wp2_with (go_at_call 8; refine (HAW.out W0).mono ?_)
  rintro e W1 ⟨rfl, b⟩
  have q := Lib.hid (Q1.out.grow b)
  clear Q1
  have Q1 := q
  clear q
  have q := Lib.hid (BW.out.trans (b.mono BW.out.size))
  clear b BW
  have BW := q
  clear q
  clear HAW
  go_wp2_with fail
  refine HK.out _ _ ?_
  clear HK
  refine wp_seq_k fun K hK => ?_
  have HK := Lib.hid hK
  clear hK
  have x0 := cells_at Q1.out 0 _ rfl
  have x1 := cells_at Q1.out 1 _ rfl
  have x2 := cells_at Q1.out 2 _ rfl
  have x3 := cells_at Q1.out 3 _ rfl
  go_wp2_with (go_at_call 13; refine (sizeTerm_any (.mk k n s us) _ _ _ _ 60 W1 ((HT.out.below BW.out).mono BW.out.size) (by omega) (by omega)).mono ?_)
  rintro e W2 ⟨rfl, b⟩
  have hsz := sizeT_bounds (.mk k n s us) 60
  obtain ⟨sz, hszq⟩ : ∃ sz, sizeT (.mk k n s us) 60 = sz := ⟨_, rfl⟩
  have HSZ := Lib.hid hszq
  rw [hszq] at hsz
  simp only [hszq]
  clear x0 x1 x2 x3
  have q := Lib.hid (Q1.out.grow b)
  clear Q1
  have Q1 := q
  clear q
  have q := Lib.hid (BW.out.trans (b.mono BW.out.size))
  clear b BW
  have BW := q
  clear q
  clear hszq hsz
  by_cases hle : 60 < sz
  · go_wp2
    go_ret
    exact ⟨rfl, BW.out⟩
  have hcnt : (Tm.mk k n s us).count ≤ 60 := by
    have h1 := sizeT_whole (.mk k n s us) 60 (by rw [HSZ.out]; omega)
    rw [HSZ.out] at h1
    omega
  have hdp := Tm.depth_le_count (.mk k n s us)
  have HDP := Lib.hid (show (Tm.mk k n s us).depth < 4611686018427387900 by omega)
  have HUL := Lib.hid (show us.length ≤ 60 by have := Tm.length_le_countL us; simp only [Tm.count] at hcnt; omega)
  clear hcnt hdp HSZ
  go_wp2_with fail
  refine HK.out _ _ ?_
  clear HK
  refine wp_seq_k fun K hK => ?_
  have HK := Lib.hid hK
  clear hK
  have x0 := cells_at Q1.out 0 _ rfl
  have x1 := cells_at Q1.out 1 _ rfl
  have x2 := cells_at Q1.out 2 _ rfl
  have x3 := cells_at Q1.out 3 _ rfl
  go_wp2_with (go_at_call 20; refine (eval_any (.mk k n s us) _ _ _ _ W2 ((HT.out.below BW.out).mono BW.out.size) HDP.out).mono ?_)
  rintro e W3 ⟨d0, d1, d2, d3, bv, rfl, b, hres⟩
  clear x0 x1 x2 x3
  have HL3 := b.size
  have q := Lib.hid (Q1.out.grow b)
  clear Q1
  have Q1 := q
  clear q
  have q := Lib.hid (BW.out.trans (b.mono BW.out.size))
  clear b BW
  have BW := q
  clear q
  rcases hres with ⟨hnone, rfl, rfl, rfl, rfl, rfl⟩ | ⟨v, hsome, rfl, hv⟩
  · have HNV := Lib.hid (evalT_none hnone)
    clear hnone
    go_wp2_with fail
    have b : Below W3.heap.size W3 (W3.alloc (.cells #[.int .u8 0, .int .i64 0, .string ⟨#[]⟩, .slice none 0 0] 32)) := (Below.refl _ _).alloc (Nat.le_refl _) _
    have qn := Row4.new W3 #[.int .u8 0, .int .i64 0, .string ⟨#[]⟩, .slice none 0 0]
    revert b qn
    generalize (W3.alloc (.cells #[.int .u8 0, .int .i64 0, .string ⟨#[]⟩, .slice none 0 0] 32)) = W4
    intro b qn
    obtain ⟨n3, hn3⟩ : ∃ p, W3.heap.size = p := ⟨_, rfl⟩
    simp only [hn3] at qn ⊢
    have Hn3 := Lib.hid hn3
    clear hn3
    have Q3 := Lib.hid qn
    clear qn
    have q := Lib.hid (Q1.out.grow b)
    clear Q1
    have Q1 := q
    clear q
    have q := Lib.hid (BW.out.trans (b.mono BW.out.size))
    clear b BW
    have BW := q
    clear q
    refine HK.out _ _ ?_
    clear HK
    have x0 := cells_at Q1.out 0 _ rfl
    have y0 := cells_at Q3.out 0 _ rfl
    have x1 := cells_at Q1.out 1 _ rfl
    have y1 := cells_at Q3.out 1 _ rfl
    have x2 := cells_at Q1.out 2 _ rfl
    have y2 := cells_at Q3.out 2 _ rfl
    have x3 := cells_at Q1.out 3 _ rfl
    have y3 := cells_at Q3.out 3 _ rfl
    go_wp2_with (go_at_call 18; refine (value_any (.mk k n s us) _ _ _ _ W4 ((HT.out.below BW.out).mono BW.out.size) HDP.out).mono ?_)
    rintro e W5 ⟨rfl, b⟩
    have BW5 := Lib.hid (BW.out.trans (b.mono BW.out.size))
    have hnv := HNV.out
    clear b
    go_wp2
    go_ret
    exact ⟨rfl, BW5.out⟩
  obtain ⟨kv, nv, sv, vs⟩ := v
  have hvI := hv.isTm (B := W3.heap.size) (fun _ h => h.2)
  have hv2 := hvI
  simp only [IsTm] at hv2
  obtain ⟨rfl, hkv, rfl, hnv, rfl, hsv, va, vcap, rfl, hvl, hva⟩ := hv2
  have HV := Lib.hid hvI
  have HVB := Lib.hid (evalT_isValue hsome)
  have HEV := Lib.hid (evalT_value (evalT_isValue hsome))
  have HVD := Lib.hid (show (Tm.mk kv nv sv vs).depth < 4611686018427387900 by have := value_depth (evalT_isValue hsome); omega)
  have HTV := Lib.hid (fun h => Option.some.inj ((evalT_value h).symm.trans hsome))
  obtain ⟨xs, hxl, hxa, hx4, hx5, hxn⟩ := parts_math hsome
  have HXL := Lib.hid hxl
  have HXA := Lib.hid hxa
  have HX4 := Lib.hid hx4
  have HX5 := Lib.hid hx5
  have HXN := Lib.hid hxn
  have HVA := Lib.hid hva
  clear hv hvI hsome hkv hnv hsv hva hxl hxa hx4 hx5 hxn HL3
  go_wp2_with fail
  have b : Below W3.heap.size W3 (W3.alloc (.cells #[.int .u8 kv, .int .i64 nv, .string sv, .slice va vs.length vcap] 32)) := (Below.refl _ _).alloc (Nat.le_refl _) _
  have qn := Row4.new W3 #[.int .u8 kv, .int .i64 nv, .string sv, .slice va vs.length vcap]
  revert b qn
  generalize (W3.alloc (.cells #[.int .u8 kv, .int .i64 nv, .string sv, .slice va vs.length vcap] 32)) = W4
  intro b qn
  obtain ⟨n3, hn3⟩ : ∃ p, W3.heap.size = p := ⟨_, rfl⟩
  simp only [hn3] at qn ⊢
  have Hn3 := Lib.hid hn3
  clear hn3
  have Q3 := Lib.hid qn
  clear qn
  have q := Lib.hid (Q1.out.grow b)
  clear Q1
  have Q1 := q
  clear q
  have q := Lib.hid ((HV.out.below b).mono b.size)
  clear HV
  have HV := q
  clear q
  have q := Lib.hid (BW.out.trans (b.mono BW.out.size))
  clear b BW
  have BW := q
  clear q
  refine HK.out _ _ ?_
  clear HK
  refine wp_seq_k fun K hK => ?_
  have HK := Lib.hid hK
  clear hK
  go_wp2_with fail
  refine HK.out _ _ ?_
  clear HK
  refine wp_seq_k fun K hK => ?_
  have HK := Lib.hid hK
  clear hK
  have y0 := cells_at Q3.out 0 _ rfl
  have y1 := cells_at Q3.out 1 _ rfl
  have y2 := cells_at Q3.out 2 _ rfl
  have y3 := cells_at Q3.out 3 _ rfl
  go_wp2_with (go_at_call 20; refine (eval_any (.mk kv nv sv vs) _ _ _ _ W4 HV.out HVD.out).mono ?_)
  rintro e W5 ⟨e0, e1, e2, e3, bw, rfl, b, hres⟩
  clear y0 y1 y2 y3
  have q := Lib.hid (Q1.out.grow b)
  clear Q1
  have Q1 := q
  clear q
  have q := Lib.hid (Q3.out.grow b)
  clear Q3
  have Q3 := q
  clear q
  have q := Lib.hid ((HV.out.below b).mono b.size)
  clear HV
  have HV := q
  clear q
  have q := Lib.hid (BW.out.trans (b.mono BW.out.size))
  clear b BW
  have BW := q
  clear q
  rcases hres with ⟨hnone, _⟩ | ⟨v', hsome, rfl, hv⟩
  · rw [HEV.out] at hnone; cases hnone
  rw [HEV.out] at hsome
  obtain rfl := Option.some.inj hsome
  have hvI := hv.isTm (B := W5.heap.size) (fun _ h => h.2)
  have hv2 := hvI
  simp only [IsTm] at hv2
  obtain ⟨rfl, _, rfl, _, rfl, _, ea, ecap, rfl, _, _⟩ := hv2
  have HW := Lib.hid hvI
  clear hv hvI hsome
  go_wp2_with fail
  have b : Below W5.heap.size W5 (W5.alloc (.cells #[.int .u8 kv, .int .i64 nv, .string sv, .slice ea vs.length ecap] 32)) := (Below.refl _ _).alloc (Nat.le_refl _) _
  have qn := Row4.new W5 #[.int .u8 kv, .int .i64 nv, .string sv, .slice ea vs.length ecap]
  revert b qn
  generalize (W5.alloc (.cells #[.int .u8 kv, .int .i64 nv, .string sv, .slice ea vs.length ecap] 32)) = W6
  intro b qn
  obtain ⟨n5, hn5⟩ : ∃ p, W5.heap.size = p := ⟨_, rfl⟩
  simp only [hn5] at qn ⊢
  have Hn5 := Lib.hid hn5
  clear hn5
  have Q5 := Lib.hid qn
  clear qn
  have q := Lib.hid (Q1.out.grow b)
  clear Q1
  have Q1 := q
  clear q
  have q := Lib.hid (Q3.out.grow b)
  clear Q3
  have Q3 := q
  clear q
  have q := Lib.hid ((HV.out.below b).mono b.size)
  clear HV
  have HV := q
  clear q
  have q := Lib.hid ((HW.out.below b).mono b.size)
  clear HW
  have HW := q
  clear q
  have q := Lib.hid (BW.out.trans (b.mono BW.out.size))
  clear b BW
  have BW := q
  clear q
  refine HK.out _ _ ?_
  clear HK
  refine wp_seq_k fun K hK => ?_
  have HK := Lib.hid hK
  clear hK
  refine wp_seq_k fun K hK => ?_
  have HK2 := Lib.hid hK
  clear hK
  have EQ1 := Lib.hid (show Evr W6 21 #[.agg #[.int .u8 kv, .int .i64 nv, .string sv, .slice va vs.length vcap], .agg #[.int .u8 kv, .int .i64 nv, .string sv, .slice ea vs.length ecap]] (.bool true) from cmp_self (good_of HV.out) ▸ equal_evr HV.out HW.out)
  have EV1 := Lib.hid (show Evr W6 18 #[.agg #[.int .u8 kv, .int .i64 nv, .string sv, .slice va vs.length vcap]] (.bool true) from HVB.out ▸ value_evr HV.out HVD.out)
  obtain ⟨VT, hVT⟩ : ∃ x, Tm.valueB (.mk k n s us) = x := ⟨_, rfl⟩
  have EV2 := Lib.hid (show Evr W6 18 #[.agg #[.int .u8 k, .int .i64 n, .string s, .slice a us.length cap]] (.bool VT) from hVT ▸ value_evr ((HT.out.below BW.out).mono BW.out.size) HDP.out)
  obtain ⟨ET, hET⟩ : ∃ x, (Tm.cmp (.mk k n s us) (.mk kv nv sv vs) == 0) = x := ⟨_, rfl⟩
  have EQ2 := Lib.hid (show Evr W6 21 #[.agg #[.int .u8 k, .int .i64 n, .string s, .slice a us.length cap], .agg #[.int .u8 kv, .int .i64 nv, .string sv, .slice va vs.length vcap]] (.bool ET) from hET ▸ equal_evr ((HT.out.below BW.out).mono BW.out.size) HV.out)
  obtain ⟨BV, hBV⟩ : ∃ x, (kv == 4) = x := ⟨_, rfl⟩
  obtain ⟨BK, hBK⟩ : ∃ x, (k != 4) = x := ⟨_, rfl⟩
  obtain ⟨B76, hB76⟩ : ∃ x : Bool, ((((vs.length : Int) : Int)) != ((us.length : Int))) = x := ⟨_, rfl⟩
  have HM := Lib.hid (show (((((!(true) || !(true)) || !(true)) || (VT && !(ET))) || (BV && (BK || B76)))) = false by
    have m1 : VT = true → ET = true := fun h => by
      rw [h] at hVT
      rw [← hET, HTV.out hVT]
      exact cmp_self (good_of HV.out)
    have m2 : BV = true → BK = false ∧ B76 = false := fun h => by
      rw [h] at hBV
      have h4 : kv = 4 := by simpa using hBV
      have hk4 : k = 4 := by
        apply Decidable.byContradiction
        intro hne
        exact HXN.out hne h4
      have hvx := HX4.out hk4
      injection hvx with _ _ _ hvx
      have hl := HXL.out
      rw [← hBK, ← hB76, hk4, hvx, hl]
      simp
    revert m1 m2
    cases VT <;> cases ET <;> cases BV <;> cases BK <;> cases B76 <;> simp)
  clear hVT hET
  refine wp_region_fix (FU (bpDescs9 k n nv kv s sv us vs a va ea cap vcap ecap n1 n3 n5 VT ET BV BK B76)) (FU_grow _) (by kernel_rfl) (steps_fix ?_) ?_
  · refine ⟨?_, ?_, ?_, ?_, ?_, ?_, ?_, ?_, ?_, ?_, ?_, ?_, ?_, ?_, ?_, ?_, ?_, ?_, ?_, ?_, ?_, ?_, ?_, ?_, ?_, ?_, ?_, ?_, ?_, ?_, ?_, ?_, ?_, ?_, ?_, ?_, ?_, ?_, ?_, ?_, ?_, ?_, trivial⟩
    · intro ac wx hb hd hs ho hp
      refine Or.inl ⟨rfl, ?_⟩
      have h6 : ac.tmps.getD 6 undef = .bool (true) := (ho 6 (by kernel_rfl)).trans rfl
      unfold Oper.wp
      go_simp
      exact Stepped.at rfl hd (Below.refl _ _) (FU_mk (.val (.bool (true))) rfl (by show (_ : Value) = _; first | rfl | (first | rfl | simp) | (simp [*])))
    · intro ac wx hb hd hs ho hp
      refine Or.inl ⟨rfl, ?_⟩
      have h38 : ac.tmps.getD 38 undef = .bool (true) := ival_at hp 0 38 (by kernel_rfl) rfl
      unfold Oper.wp
      go_simp
      exact Stepped.at rfl hd (Below.refl _ _) (FU_mk (.val (.bool (!(true)))) rfl (by show (_ : Value) = _; first | rfl | (first | rfl | simp) | (simp [*])))
    · intro ac wx hb hd hs ho hp
      refine Or.inl ⟨rfl, ?_⟩
      have h39 : ac.tmps.getD 39 undef = .bool (!(true)) := ival_at hp 1 39 (by kernel_rfl) rfl
      unfold Oper.wp
      go_simp
      exact Stepped.at rfl hd (Below.refl _ _) (FU_mk (.val (.bool (!(true)))) rfl (by show (_ : Value) = _; first | rfl | (first | rfl | simp) | (simp [*])))
    · intro ac wx hb hd hs ho hp
      have hg : ac.tmps.getD 40 undef = cond (true) (.bool (!(true))) undef := ival_at hp 2 40 (by kernel_rfl) rfl
      rcases Bool.eq_false_or_eq_true (gon (true) (!(true)) false) with hc | hc
      rotate_left
      · exact Or.inr ⟨(wanted_gon (k := 2) (d := 40) rfl (by kernel_rfl) hg).trans hc, fun d hd => FU_mk (.val _) rfl (by rw [hc]; rfl)⟩
      refine Or.inl ⟨(wanted_gon (k := 2) (d := 40) rfl (by kernel_rfl) hg).trans hc, ?_⟩
      have HC := Lib.hid hc
      clear hg hc
      have h3 : ac.tmps.getD 3 undef = .pointer (some ⟨n3, 0, none⟩) := (ho 3 (by kernel_rfl)).trans rfl
      have hx := Q3.out.grow hb
      have x0 := cells_at hx 0 _ rfl
      have x1 := cells_at hx 1 _ rfl
      have x2 := cells_at hx 2 _ rfl
      have x3 := cells_at hx 3 _ rfl
      unfold Oper.wp
      go_simp
      exact Stepped.at rfl hd (Below.refl _ _) (FU_mk (.val (cond (gon (true) (!(true)) false) (.agg #[.int .u8 kv, .int .i64 nv, .string sv, .slice va vs.length vcap]) undef)) rfl (by show (_ : Value) = _; first | rfl | (rw [HC.out]; first | rfl | simp) | (rw [HC.out]; simp [*])))
    · intro ac wx hb hd hs ho hp
      have hg : ac.tmps.getD 40 undef = cond (true) (.bool (!(true))) undef := ival_at hp 2 40 (by kernel_rfl) rfl
      rcases Bool.eq_false_or_eq_true (gon (true) (!(true)) false) with hc | hc
      rotate_left
      · exact Or.inr ⟨(wanted_gon (k := 2) (d := 40) rfl (by kernel_rfl) hg).trans hc, fun d hd => FU_mk (.val _) rfl (by rw [hc]; rfl)⟩
      refine Or.inl ⟨(wanted_gon (k := 2) (d := 40) rfl (by kernel_rfl) hg).trans hc, ?_⟩
      have HC := Lib.hid hc
      clear hg hc
      have h5 : ac.tmps.getD 5 undef = .pointer (some ⟨n5, 0, none⟩) := (ho 5 (by kernel_rfl)).trans rfl
      have hx := Q5.out.grow hb
      have x0 := cells_at hx 0 _ rfl
      have x1 := cells_at hx 1 _ rfl
      have x2 := cells_at hx 2 _ rfl
      have x3 := cells_at hx 3 _ rfl
      unfold Oper.wp
      go_simp
      exact Stepped.at rfl hd (Below.refl _ _) (FU_mk (.val (cond (gon (true) (!(true)) false) (.agg #[.int .u8 kv, .int .i64 nv, .string sv, .slice ea vs.length ecap]) undef)) rfl (by show (_ : Value) = _; first | rfl | (rw [HC.out]; first | rfl | simp) | (rw [HC.out]; simp [*])))
    · intro ac wx hb hd hs ho hp
      have hg : ac.tmps.getD 40 undef = cond (true) (.bool (!(true))) undef := ival_at hp 2 40 (by kernel_rfl) rfl
      rcases Bool.eq_false_or_eq_true (gon (true) (!(true)) false) with hc | hc
      rotate_left
      · exact Or.inr ⟨(wanted_gon (k := 2) (d := 40) rfl (by kernel_rfl) hg).trans hc, fun d hd => FU_mk (.val _) rfl (by rw [hc]; rfl)⟩
      refine Or.inl ⟨(wanted_gon (k := 2) (d := 40) rfl (by kernel_rfl) hg).trans hc, ?_⟩
      have HC := Lib.hid hc
      clear hg hc
      have h41 : ac.tmps.getD 41 undef = cond (gon (true) (!(true)) false) (.agg #[.int .u8 kv, .int .i64 nv, .string sv, .slice va vs.length vcap]) undef := ival_at hp 3 41 (by kernel_rfl) rfl
      rw [HC.out, cond_true] at h41
      have h42 : ac.tmps.getD 42 undef = cond (gon (true) (!(true)) false) (.agg #[.int .u8 kv, .int .i64 nv, .string sv, .slice ea vs.length ecap]) undef := ival_at hp 4 42 (by kernel_rfl) rfl
      rw [HC.out, cond_true] at h42
      unfold Oper.wp
      go_simp
      refine (EQ1.out _ hb).mono ?_
      rintro e2 w2 ⟨rfl, hb2⟩
      exact Stepped.at rfl hd (hb2) (FU_mk (.val (cond (gon (true) (!(true)) false) (.bool (true)) undef)) rfl (by show (_ : Value) = _; rw [HC.out]; first | rfl | simp))
    · intro ac wx hb hd hs ho hp
      have hg : ac.tmps.getD 40 undef = cond (true) (.bool (!(true))) undef := ival_at hp 2 40 (by kernel_rfl) rfl
      rcases Bool.eq_false_or_eq_true (gon (true) (!(true)) false) with hc | hc
      rotate_left
      · exact Or.inr ⟨(wanted_gon (k := 2) (d := 40) rfl (by kernel_rfl) hg).trans hc, fun d hd => FU_mk (.val _) rfl (by rw [hc]; rfl)⟩
      refine Or.inl ⟨(wanted_gon (k := 2) (d := 40) rfl (by kernel_rfl) hg).trans hc, ?_⟩
      have HC := Lib.hid hc
      clear hg hc
      have h43 : ac.tmps.getD 43 undef = cond (gon (true) (!(true)) false) (.bool (true)) undef := ival_at hp 5 43 (by kernel_rfl) rfl
      rw [HC.out, cond_true] at h43
      unfold Oper.wp
      go_simp
      exact Stepped.at rfl hd (Below.refl _ _) (FU_mk (.val (cond (gon (true) (!(true)) false) (.bool (!(true))) undef)) rfl (by show (_ : Value) = _; first | rfl | (rw [HC.out]; first | rfl | simp) | (rw [HC.out]; simp [*])))
    · intro ac wx hb hd hs ho hp
      refine Or.inl ⟨rfl, ?_⟩
      have h40 : ac.tmps.getD 40 undef = .bool (!(true)) := ival_at hp 2 40 (by kernel_rfl) rfl
      rcases Bool.eq_false_or_eq_true (!(true)) with e | e
      · rw [e] at h40
        have E := Lib.hid e
        clear e
        unfold Oper.wp
        go_simp
        exact Stepped.at rfl hd (Below.refl _ _) (FU_mk (.val (.bool ((!(true) || !(true))))) rfl (by show (_ : Value) = _; first | (simp only [E.out, Bool.true_or]; done) | simp [E.out]))
      · rw [e] at h40
        have E := Lib.hid e
        clear e
        have h44 : ac.tmps.getD 44 undef = cond (gon (true) (!(true)) false) (.bool (!(true))) undef := ival_at hp 6 44 (by kernel_rfl) rfl
        rw [gon_mk rfl E.out, cond_true] at h44
        unfold Oper.wp
        go_simp
        exact Stepped.at rfl hd (Below.refl _ _) (FU_mk (.val (.bool ((!(true) || !(true))))) rfl (by show (_ : Value) = _; first | (simp only [E.out, Bool.false_or]; done) | simp [E.out]))
    · intro ac wx hb hd hs ho hp
      refine Or.inl ⟨rfl, ?_⟩
      have h45 : ac.tmps.getD 45 undef = .bool ((!(true) || !(true))) := ival_at hp 7 45 (by kernel_rfl) rfl
      unfold Oper.wp
      go_simp
      exact Stepped.at rfl hd (Below.refl _ _) (FU_mk (.val (.bool ((!(true) || !(true))))) rfl (by show (_ : Value) = _; first | rfl | (first | rfl | simp) | (simp [*])))
    · intro ac wx hb hd hs ho hp
      have hg : ac.tmps.getD 46 undef = cond (true) (.bool ((!(true) || !(true)))) undef := ival_at hp 8 46 (by kernel_rfl) rfl
      rcases Bool.eq_false_or_eq_true (gon (true) ((!(true) || !(true))) false) with hc | hc
      rotate_left
      · exact Or.inr ⟨(wanted_gon (k := 8) (d := 46) rfl (by kernel_rfl) hg).trans hc, fun d hd => FU_mk (.val _) rfl (by rw [hc]; rfl)⟩
      refine Or.inl ⟨(wanted_gon (k := 8) (d := 46) rfl (by kernel_rfl) hg).trans hc, ?_⟩
      have HC := Lib.hid hc
      clear hg hc
      have h3 : ac.tmps.getD 3 undef = .pointer (some ⟨n3, 0, none⟩) := (ho 3 (by kernel_rfl)).trans rfl
      have hx := Q3.out.grow hb
      have x0 := cells_at hx 0 _ rfl
      have x1 := cells_at hx 1 _ rfl
      have x2 := cells_at hx 2 _ rfl
      have x3 := cells_at hx 3 _ rfl
      unfold Oper.wp
      go_simp
      exact Stepped.at rfl hd (Below.refl _ _) (FU_mk (.val (cond (gon (true) ((!(true) || !(true))) false) (.agg #[.int .u8 kv, .int .i64 nv, .string sv, .slice va vs.length vcap]) undef)) rfl (by show (_ : Value) = _; first | rfl | (rw [HC.out]; first | rfl | simp) | (rw [HC.out]; simp [*])))
    · intro ac wx hb hd hs ho hp
      have hg : ac.tmps.getD 46 undef = cond (true) (.bool ((!(true) || !(true)))) undef := ival_at hp 8 46 (by kernel_rfl) rfl
      rcases Bool.eq_false_or_eq_true (gon (true) ((!(true) || !(true))) false) with hc | hc
      rotate_left
      · exact Or.inr ⟨(wanted_gon (k := 8) (d := 46) rfl (by kernel_rfl) hg).trans hc, fun d hd => FU_mk (.val _) rfl (by rw [hc]; rfl)⟩
      refine Or.inl ⟨(wanted_gon (k := 8) (d := 46) rfl (by kernel_rfl) hg).trans hc, ?_⟩
      have HC := Lib.hid hc
      clear hg hc
      have h47 : ac.tmps.getD 47 undef = cond (gon (true) ((!(true) || !(true))) false) (.agg #[.int .u8 kv, .int .i64 nv, .string sv, .slice va vs.length vcap]) undef := ival_at hp 9 47 (by kernel_rfl) rfl
      rw [HC.out, cond_true] at h47
      unfold Oper.wp
      go_simp
      refine (EV1.out _ hb).mono ?_
      rintro e2 w2 ⟨rfl, hb2⟩
      exact Stepped.at rfl hd (hb2) (FU_mk (.val (cond (gon (true) ((!(true) || !(true))) false) (.bool (true)) undef)) rfl (by show (_ : Value) = _; rw [HC.out]; first | rfl | simp))
    · intro ac wx hb hd hs ho hp
      have hg : ac.tmps.getD 46 undef = cond (true) (.bool ((!(true) || !(true)))) undef := ival_at hp 8 46 (by kernel_rfl) rfl
      rcases Bool.eq_false_or_eq_true (gon (true) ((!(true) || !(true))) false) with hc | hc
      rotate_left
      · exact Or.inr ⟨(wanted_gon (k := 8) (d := 46) rfl (by kernel_rfl) hg).trans hc, fun d hd => FU_mk (.val _) rfl (by rw [hc]; rfl)⟩
      refine Or.inl ⟨(wanted_gon (k := 8) (d := 46) rfl (by kernel_rfl) hg).trans hc, ?_⟩
      have HC := Lib.hid hc
      clear hg hc
      have h48 : ac.tmps.getD 48 undef = cond (gon (true) ((!(true) || !(true))) false) (.bool (true)) undef := ival_at hp 10 48 (by kernel_rfl) rfl
      rw [HC.out, cond_true] at h48
      unfold Oper.wp
      go_simp
      exact Stepped.at rfl hd (Below.refl _ _) (FU_mk (.val (cond (gon (true) ((!(true) || !(true))) false) (.bool (!(true))) undef)) rfl (by show (_ : Value) = _; first | rfl | (rw [HC.out]; first | rfl | simp) | (rw [HC.out]; simp [*])))
    · intro ac wx hb hd hs ho hp
      refine Or.inl ⟨rfl, ?_⟩
      have h46 : ac.tmps.getD 46 undef = .bool ((!(true) || !(true))) := ival_at hp 8 46 (by kernel_rfl) rfl
      rcases Bool.eq_false_or_eq_true ((!(true) || !(true))) with e | e
      · rw [e] at h46
        have E := Lib.hid e
        clear e
        unfold Oper.wp
        go_simp
        exact Stepped.at rfl hd (Below.refl _ _) (FU_mk (.val (.bool (((!(true) || !(true)) || !(true))))) rfl (by show (_ : Value) = _; first | (simp only [E.out, Bool.true_or]; done) | simp [E.out]))
      · rw [e] at h46
        have E := Lib.hid e
        clear e
        have h49 : ac.tmps.getD 49 undef = cond (gon (true) ((!(true) || !(true))) false) (.bool (!(true))) undef := ival_at hp 11 49 (by kernel_rfl) rfl
        rw [gon_mk rfl E.out, cond_true] at h49
        unfold Oper.wp
        go_simp
        exact Stepped.at rfl hd (Below.refl _ _) (FU_mk (.val (.bool (((!(true) || !(true)) || !(true))))) rfl (by show (_ : Value) = _; first | (simp only [Bool.false_or]; done) | simp))
    · intro ac wx hb hd hs ho hp
      refine Or.inl ⟨rfl, ?_⟩
      have h50 : ac.tmps.getD 50 undef = .bool (((!(true) || !(true)) || !(true))) := ival_at hp 12 50 (by kernel_rfl) rfl
      unfold Oper.wp
      go_simp
      exact Stepped.at rfl hd (Below.refl _ _) (FU_mk (.val (.bool (((!(true) || !(true)) || !(true))))) rfl (by show (_ : Value) = _; first | rfl | (first | rfl | simp) | (simp [*])))
    · intro ac wx hb hd hs ho hp
      have hg : ac.tmps.getD 51 undef = cond (true) (.bool (((!(true) || !(true)) || !(true)))) undef := ival_at hp 13 51 (by kernel_rfl) rfl
      rcases Bool.eq_false_or_eq_true (gon (true) (((!(true) || !(true)) || !(true))) false) with hc | hc
      rotate_left
      · exact Or.inr ⟨(wanted_gon (k := 13) (d := 51) rfl (by kernel_rfl) hg).trans hc, fun d hd => FU_mk (.val _) rfl (by rw [hc]; rfl)⟩
      refine Or.inl ⟨(wanted_gon (k := 13) (d := 51) rfl (by kernel_rfl) hg).trans hc, ?_⟩
      have HC := Lib.hid hc
      clear hg hc
      have h1 : ac.tmps.getD 1 undef = .pointer (some ⟨n1, 0, none⟩) := (ho 1 (by kernel_rfl)).trans rfl
      have hx := Q1.out.grow hb
      have x0 := cells_at hx 0 _ rfl
      have x1 := cells_at hx 1 _ rfl
      have x2 := cells_at hx 2 _ rfl
      have x3 := cells_at hx 3 _ rfl
      unfold Oper.wp
      go_simp
      exact Stepped.at rfl hd (Below.refl _ _) (FU_mk (.val (cond (gon (true) (((!(true) || !(true)) || !(true))) false) (.agg #[.int .u8 k, .int .i64 n, .string s, .slice a us.length cap]) undef)) rfl (by show (_ : Value) = _; first | rfl | (rw [HC.out]; first | rfl | simp) | (rw [HC.out]; simp [*])))
    · intro ac wx hb hd hs ho hp
      have hg : ac.tmps.getD 51 undef = cond (true) (.bool (((!(true) || !(true)) || !(true)))) undef := ival_at hp 13 51 (by kernel_rfl) rfl
      rcases Bool.eq_false_or_eq_true (gon (true) (((!(true) || !(true)) || !(true))) false) with hc | hc
      rotate_left
      · exact Or.inr ⟨(wanted_gon (k := 13) (d := 51) rfl (by kernel_rfl) hg).trans hc, fun d hd => FU_mk (.val _) rfl (by rw [hc]; rfl)⟩
      refine Or.inl ⟨(wanted_gon (k := 13) (d := 51) rfl (by kernel_rfl) hg).trans hc, ?_⟩
      have HC := Lib.hid hc
      clear hg hc
      have h52 : ac.tmps.getD 52 undef = cond (gon (true) (((!(true) || !(true)) || !(true))) false) (.agg #[.int .u8 k, .int .i64 n, .string s, .slice a us.length cap]) undef := ival_at hp 14 52 (by kernel_rfl) rfl
      rw [HC.out, cond_true] at h52
      unfold Oper.wp
      go_simp
      refine (EV2.out _ hb).mono ?_
      rintro e2 w2 ⟨rfl, hb2⟩
      exact Stepped.at rfl hd (hb2) (FU_mk (.val (cond (gon (true) (((!(true) || !(true)) || !(true))) false) (.bool (VT)) undef)) rfl (by show (_ : Value) = _; rw [HC.out]; first | rfl | simp))
    · intro ac wx hb hd hs ho hp
      have hg : ac.tmps.getD 51 undef = cond (true) (.bool (((!(true) || !(true)) || !(true)))) undef := ival_at hp 13 51 (by kernel_rfl) rfl
      rcases Bool.eq_false_or_eq_true (gon (true) (((!(true) || !(true)) || !(true))) false) with hc | hc
      rotate_left
      · exact Or.inr ⟨(wanted_gon (k := 13) (d := 51) rfl (by kernel_rfl) hg).trans hc, fun d hd => FU_mk (.val _) rfl (by rw [hc]; rfl)⟩
      refine Or.inl ⟨(wanted_gon (k := 13) (d := 51) rfl (by kernel_rfl) hg).trans hc, ?_⟩
      have HC := Lib.hid hc
      clear hg hc
      have h53 : ac.tmps.getD 53 undef = cond (gon (true) (((!(true) || !(true)) || !(true))) false) (.bool (VT)) undef := ival_at hp 15 53 (by kernel_rfl) rfl
      rw [HC.out, cond_true] at h53
      unfold Oper.wp
      go_simp
      exact Stepped.at rfl hd (Below.refl _ _) (FU_mk (.val (cond (gon (true) (((!(true) || !(true)) || !(true))) false) (.bool (VT)) undef)) rfl (by show (_ : Value) = _; first | rfl | (rw [HC.out]; first | rfl | simp) | (rw [HC.out]; simp [*])))
    · intro ac wx hb hd hs ho hp
      have hg : ac.tmps.getD 54 undef = cond (gon (true) (((!(true) || !(true)) || !(true))) false) (.bool (VT)) undef := ival_at hp 16 54 (by kernel_rfl) rfl
      rcases Bool.eq_false_or_eq_true (gon (gon (true) (((!(true) || !(true)) || !(true))) false) (VT) true) with hc | hc
      rotate_left
      · exact Or.inr ⟨(wanted_gon (k := 16) (d := 54) rfl (by kernel_rfl) hg).trans hc, fun d hd => FU_mk (.val _) rfl (by rw [hc]; rfl)⟩
      refine Or.inl ⟨(wanted_gon (k := 16) (d := 54) rfl (by kernel_rfl) hg).trans hc, ?_⟩
      have HC := Lib.hid hc
      clear hg hc
      have h1 : ac.tmps.getD 1 undef = .pointer (some ⟨n1, 0, none⟩) := (ho 1 (by kernel_rfl)).trans rfl
      have hx := Q1.out.grow hb
      have x0 := cells_at hx 0 _ rfl
      have x1 := cells_at hx 1 _ rfl
      have x2 := cells_at hx 2 _ rfl
      have x3 := cells_at hx 3 _ rfl
      unfold Oper.wp
      go_simp
      exact Stepped.at rfl hd (Below.refl _ _) (FU_mk (.val (cond (gon (gon (true) (((!(true) || !(true)) || !(true))) false) (VT) true) (.agg #[.int .u8 k, .int .i64 n, .string s, .slice a us.length cap]) undef)) rfl (by show (_ : Value) = _; first | rfl | (rw [HC.out]; first | rfl | simp) | (rw [HC.out]; simp [*])))
    · intro ac wx hb hd hs ho hp
      have hg : ac.tmps.getD 54 undef = cond (gon (true) (((!(true) || !(true)) || !(true))) false) (.bool (VT)) undef := ival_at hp 16 54 (by kernel_rfl) rfl
      rcases Bool.eq_false_or_eq_true (gon (gon (true) (((!(true) || !(true)) || !(true))) false) (VT) true) with hc | hc
      rotate_left
      · exact Or.inr ⟨(wanted_gon (k := 16) (d := 54) rfl (by kernel_rfl) hg).trans hc, fun d hd => FU_mk (.val _) rfl (by rw [hc]; rfl)⟩
      refine Or.inl ⟨(wanted_gon (k := 16) (d := 54) rfl (by kernel_rfl) hg).trans hc, ?_⟩
      have HC := Lib.hid hc
      clear hg hc
      have h3 : ac.tmps.getD 3 undef = .pointer (some ⟨n3, 0, none⟩) := (ho 3 (by kernel_rfl)).trans rfl
      have hx := Q3.out.grow hb
      have x0 := cells_at hx 0 _ rfl
      have x1 := cells_at hx 1 _ rfl
      have x2 := cells_at hx 2 _ rfl
      have x3 := cells_at hx 3 _ rfl
      unfold Oper.wp
      go_simp
      exact Stepped.at rfl hd (Below.refl _ _) (FU_mk (.val (cond (gon (gon (true) (((!(true) || !(true)) || !(true))) false) (VT) true) (.agg #[.int .u8 kv, .int .i64 nv, .string sv, .slice va vs.length vcap]) undef)) rfl (by show (_ : Value) = _; first | rfl | (rw [HC.out]; first | rfl | simp) | (rw [HC.out]; simp [*])))
    · intro ac wx hb hd hs ho hp
      have hg : ac.tmps.getD 54 undef = cond (gon (true) (((!(true) || !(true)) || !(true))) false) (.bool (VT)) undef := ival_at hp 16 54 (by kernel_rfl) rfl
      rcases Bool.eq_false_or_eq_true (gon (gon (true) (((!(true) || !(true)) || !(true))) false) (VT) true) with hc | hc
      rotate_left
      · exact Or.inr ⟨(wanted_gon (k := 16) (d := 54) rfl (by kernel_rfl) hg).trans hc, fun d hd => FU_mk (.val _) rfl (by rw [hc]; rfl)⟩
      refine Or.inl ⟨(wanted_gon (k := 16) (d := 54) rfl (by kernel_rfl) hg).trans hc, ?_⟩
      have HC := Lib.hid hc
      clear hg hc
      have h55 : ac.tmps.getD 55 undef = cond (gon (gon (true) (((!(true) || !(true)) || !(true))) false) (VT) true) (.agg #[.int .u8 k, .int .i64 n, .string s, .slice a us.length cap]) undef := ival_at hp 17 55 (by kernel_rfl) rfl
      rw [HC.out, cond_true] at h55
      have h56 : ac.tmps.getD 56 undef = cond (gon (gon (true) (((!(true) || !(true)) || !(true))) false) (VT) true) (.agg #[.int .u8 kv, .int .i64 nv, .string sv, .slice va vs.length vcap]) undef := ival_at hp 18 56 (by kernel_rfl) rfl
      rw [HC.out, cond_true] at h56
      unfold Oper.wp
      go_simp
      refine (EQ2.out _ hb).mono ?_
      rintro e2 w2 ⟨rfl, hb2⟩
      exact Stepped.at rfl hd (hb2) (FU_mk (.val (cond (gon (gon (true) (((!(true) || !(true)) || !(true))) false) (VT) true) (.bool (ET)) undef)) rfl (by show (_ : Value) = _; rw [HC.out]; first | rfl | simp))
    · intro ac wx hb hd hs ho hp
      have hg : ac.tmps.getD 54 undef = cond (gon (true) (((!(true) || !(true)) || !(true))) false) (.bool (VT)) undef := ival_at hp 16 54 (by kernel_rfl) rfl
      rcases Bool.eq_false_or_eq_true (gon (gon (true) (((!(true) || !(true)) || !(true))) false) (VT) true) with hc | hc
      rotate_left
      · exact Or.inr ⟨(wanted_gon (k := 16) (d := 54) rfl (by kernel_rfl) hg).trans hc, fun d hd => FU_mk (.val _) rfl (by rw [hc]; rfl)⟩
      refine Or.inl ⟨(wanted_gon (k := 16) (d := 54) rfl (by kernel_rfl) hg).trans hc, ?_⟩
      have HC := Lib.hid hc
      clear hg hc
      have h57 : ac.tmps.getD 57 undef = cond (gon (gon (true) (((!(true) || !(true)) || !(true))) false) (VT) true) (.bool (ET)) undef := ival_at hp 19 57 (by kernel_rfl) rfl
      rw [HC.out, cond_true] at h57
      unfold Oper.wp
      go_simp
      exact Stepped.at rfl hd (Below.refl _ _) (FU_mk (.val (cond (gon (gon (true) (((!(true) || !(true)) || !(true))) false) (VT) true) (.bool (!(ET))) undef)) rfl (by show (_ : Value) = _; first | rfl | (rw [HC.out]; first | rfl | simp) | (rw [HC.out]; simp [*])))
    · intro ac wx hb hd hs ho hp
      have hg : ac.tmps.getD 51 undef = cond (true) (.bool (((!(true) || !(true)) || !(true)))) undef := ival_at hp 13 51 (by kernel_rfl) rfl
      rcases Bool.eq_false_or_eq_true (gon (true) (((!(true) || !(true)) || !(true))) false) with hc | hc
      rotate_left
      · exact Or.inr ⟨(wanted_gon (k := 13) (d := 51) rfl (by kernel_rfl) hg).trans hc, fun d hd => FU_mk (.val _) rfl (by rw [hc]; rfl)⟩
      refine Or.inl ⟨(wanted_gon (k := 13) (d := 51) rfl (by kernel_rfl) hg).trans hc, ?_⟩
      have HC := Lib.hid hc
      clear hg hc
      have h54 : ac.tmps.getD 54 undef = cond (gon (true) (((!(true) || !(true)) || !(true))) false) (.bool (VT)) undef := ival_at hp 16 54 (by kernel_rfl) rfl
      rw [HC.out, cond_true] at h54
      rcases Bool.eq_false_or_eq_true (VT) with e | e
      · rw [e] at h54
        have E := Lib.hid e
        clear e
        have h58 : ac.tmps.getD 58 undef = cond (gon (gon (true) (((!(true) || !(true)) || !(true))) false) (VT) true) (.bool (!(ET))) undef := ival_at hp 20 58 (by kernel_rfl) rfl
        rw [gon_mk HC.out E.out, cond_true] at h58
        unfold Oper.wp
        go_simp
        exact Stepped.at rfl hd (Below.refl _ _) (FU_mk (.val (cond (gon (true) (((!(true) || !(true)) || !(true))) false) (.bool ((VT && !(ET)))) undef)) rfl (by show (_ : Value) = _; rw [HC.out, cond_true]; first | (simp only [E.out, Bool.true_and]; done) | simp [E.out]))
      · rw [e] at h54
        have E := Lib.hid e
        clear e
        unfold Oper.wp
        go_simp
        exact Stepped.at rfl hd (Below.refl _ _) (FU_mk (.val (cond (gon (true) (((!(true) || !(true)) || !(true))) false) (.bool ((VT && !(ET)))) undef)) rfl (by show (_ : Value) = _; rw [HC.out, cond_true]; first | (simp only [E.out, Bool.false_and]; done) | simp [E.out]))
    · intro ac wx hb hd hs ho hp
      refine Or.inl ⟨rfl, ?_⟩
      have h51 : ac.tmps.getD 51 undef = .bool (((!(true) || !(true)) || !(true))) := ival_at hp 13 51 (by kernel_rfl) rfl
      rcases Bool.eq_false_or_eq_true (((!(true) || !(true)) || !(true))) with e | e
      · rw [e] at h51
        have E := Lib.hid e
        clear e
        unfold Oper.wp
        go_simp
        exact Stepped.at rfl hd (Below.refl _ _) (FU_mk (.val (.bool ((((!(true) || !(true)) || !(true)) || (VT && !(ET)))))) rfl (by show (_ : Value) = _; first | (simp only [E.out, Bool.true_or]; done) | simp [E.out]))
      · rw [e] at h51
        have E := Lib.hid e
        clear e
        have h59 : ac.tmps.getD 59 undef = cond (gon (true) (((!(true) || !(true)) || !(true))) false) (.bool ((VT && !(ET)))) undef := ival_at hp 21 59 (by kernel_rfl) rfl
        rw [gon_mk rfl E.out, cond_true] at h59
        unfold Oper.wp
        go_simp
        exact Stepped.at rfl hd (Below.refl _ _) (FU_mk (.val (.bool ((((!(true) || !(true)) || !(true)) || (VT && !(ET)))))) rfl (by show (_ : Value) = _; first | (simp only [E.out, Bool.false_or]; done) | simp [E.out]))
    · intro ac wx hb hd hs ho hp
      refine Or.inl ⟨rfl, ?_⟩
      have h60 : ac.tmps.getD 60 undef = .bool ((((!(true) || !(true)) || !(true)) || (VT && !(ET)))) := ival_at hp 22 60 (by kernel_rfl) rfl
      unfold Oper.wp
      go_simp
      exact Stepped.at rfl hd (Below.refl _ _) (FU_mk (.val (.bool ((((!(true) || !(true)) || !(true)) || (VT && !(ET)))))) rfl (by show (_ : Value) = _; first | rfl | (first | rfl | simp) | (simp [*])))
    · intro ac wx hb hd hs ho hp
      have hg : ac.tmps.getD 61 undef = cond (true) (.bool ((((!(true) || !(true)) || !(true)) || (VT && !(ET))))) undef := ival_at hp 23 61 (by kernel_rfl) rfl
      rcases Bool.eq_false_or_eq_true (gon (true) ((((!(true) || !(true)) || !(true)) || (VT && !(ET)))) false) with hc | hc
      rotate_left
      · exact Or.inr ⟨(wanted_gon (k := 23) (d := 61) rfl (by kernel_rfl) hg).trans hc, fun d hd => FU_mk (.val _) rfl (by rw [hc]; rfl)⟩
      refine Or.inl ⟨(wanted_gon (k := 23) (d := 61) rfl (by kernel_rfl) hg).trans hc, ?_⟩
      have HC := Lib.hid hc
      clear hg hc
      have h3 : ac.tmps.getD 3 undef = .pointer (some ⟨n3, 0, none⟩) := (ho 3 (by kernel_rfl)).trans rfl
      unfold Oper.wp
      go_simp
      exact Stepped.at rfl hd (Below.refl _ _) (FU_mk (.val (cond (gon (true) ((((!(true) || !(true)) || !(true)) || (VT && !(ET)))) false) (.pointer (some ⟨n3, 0, none⟩)) undef)) rfl (by show (_ : Value) = _; first | rfl | (rw [HC.out]; first | rfl | simp) | (rw [HC.out]; simp [*])))
    · intro ac wx hb hd hs ho hp
      have hg : ac.tmps.getD 61 undef = cond (true) (.bool ((((!(true) || !(true)) || !(true)) || (VT && !(ET))))) undef := ival_at hp 23 61 (by kernel_rfl) rfl
      rcases Bool.eq_false_or_eq_true (gon (true) ((((!(true) || !(true)) || !(true)) || (VT && !(ET)))) false) with hc | hc
      rotate_left
      · exact Or.inr ⟨(wanted_gon (k := 23) (d := 61) rfl (by kernel_rfl) hg).trans hc, fun d hd => FU_mk (.val _) rfl (by rw [hc]; rfl)⟩
      refine Or.inl ⟨(wanted_gon (k := 23) (d := 61) rfl (by kernel_rfl) hg).trans hc, ?_⟩
      have HC := Lib.hid hc
      clear hg hc
      have h62 : ac.tmps.getD 62 undef = cond (gon (true) ((((!(true) || !(true)) || !(true)) || (VT && !(ET)))) false) (.pointer (some ⟨n3, 0, none⟩)) undef := ival_at hp 24 62 (by kernel_rfl) rfl
      rw [HC.out, cond_true] at h62
      have hx := Q3.out.grow hb
      have x0 := cells_at hx 0 _ rfl
      have x1 := cells_at hx 1 _ rfl
      have x2 := cells_at hx 2 _ rfl
      have x3 := cells_at hx 3 _ rfl
      unfold Oper.wp
      go_simp
      exact Stepped.at rfl hd (Below.refl _ _) (FU_mk (.val (cond (gon (true) ((((!(true) || !(true)) || !(true)) || (VT && !(ET)))) false) (.int .u8 kv) undef)) rfl (by show (_ : Value) = _; first | rfl | (rw [HC.out]; first | rfl | simp) | (rw [HC.out]; simp [*])))
    · intro ac wx hb hd hs ho hp
      have hg : ac.tmps.getD 61 undef = cond (true) (.bool ((((!(true) || !(true)) || !(true)) || (VT && !(ET))))) undef := ival_at hp 23 61 (by kernel_rfl) rfl
      rcases Bool.eq_false_or_eq_true (gon (true) ((((!(true) || !(true)) || !(true)) || (VT && !(ET)))) false) with hc | hc
      rotate_left
      · exact Or.inr ⟨(wanted_gon (k := 23) (d := 61) rfl (by kernel_rfl) hg).trans hc, fun d hd => FU_mk (.val _) rfl (by rw [hc]; rfl)⟩
      refine Or.inl ⟨(wanted_gon (k := 23) (d := 61) rfl (by kernel_rfl) hg).trans hc, ?_⟩
      have HC := Lib.hid hc
      clear hg hc
      have h63 : ac.tmps.getD 63 undef = cond (gon (true) ((((!(true) || !(true)) || !(true)) || (VT && !(ET)))) false) (.int .u8 kv) undef := ival_at hp 25 63 (by kernel_rfl) rfl
      rw [HC.out, cond_true] at h63
      unfold Oper.wp
      go_simp
      exact Stepped.at rfl hd (Below.refl _ _) (FU_mk (.val (cond (gon (true) ((((!(true) || !(true)) || !(true)) || (VT && !(ET)))) false) (.bool (BV)) undef)) rfl (by show (_ : Value) = _; first | rfl | (rw [HC.out]; rw [← hBV]; first | rfl | simp) | (rw [HC.out]; simp [*])))
    · intro ac wx hb hd hs ho hp
      have hg : ac.tmps.getD 61 undef = cond (true) (.bool ((((!(true) || !(true)) || !(true)) || (VT && !(ET))))) undef := ival_at hp 23 61 (by kernel_rfl) rfl
      rcases Bool.eq_false_or_eq_true (gon (true) ((((!(true) || !(true)) || !(true)) || (VT && !(ET)))) false) with hc | hc
      rotate_left
      · exact Or.inr ⟨(wanted_gon (k := 23) (d := 61) rfl (by kernel_rfl) hg).trans hc, fun d hd => FU_mk (.val _) rfl (by rw [hc]; rfl)⟩
      refine Or.inl ⟨(wanted_gon (k := 23) (d := 61) rfl (by kernel_rfl) hg).trans hc, ?_⟩
      have HC := Lib.hid hc
      clear hg hc
      have h64 : ac.tmps.getD 64 undef = cond (gon (true) ((((!(true) || !(true)) || !(true)) || (VT && !(ET)))) false) (.bool (BV)) undef := ival_at hp 26 64 (by kernel_rfl) rfl
      rw [HC.out, cond_true] at h64
      unfold Oper.wp
      go_simp
      exact Stepped.at rfl hd (Below.refl _ _) (FU_mk (.val (cond (gon (true) ((((!(true) || !(true)) || !(true)) || (VT && !(ET)))) false) (.bool (BV)) undef)) rfl (by show (_ : Value) = _; first | rfl | (rw [HC.out]; first | rfl | simp) | (rw [HC.out]; simp [*])))
    · intro ac wx hb hd hs ho hp
      have hg : ac.tmps.getD 65 undef = cond (gon (true) ((((!(true) || !(true)) || !(true)) || (VT && !(ET)))) false) (.bool (BV)) undef := ival_at hp 27 65 (by kernel_rfl) rfl
      rcases Bool.eq_false_or_eq_true (gon (gon (true) ((((!(true) || !(true)) || !(true)) || (VT && !(ET)))) false) (BV) true) with hc | hc
      rotate_left
      · exact Or.inr ⟨(wanted_gon (k := 27) (d := 65) rfl (by kernel_rfl) hg).trans hc, fun d hd => FU_mk (.val _) rfl (by rw [hc]; rfl)⟩
      refine Or.inl ⟨(wanted_gon (k := 27) (d := 65) rfl (by kernel_rfl) hg).trans hc, ?_⟩
      have HC := Lib.hid hc
      clear hg hc
      have h1 : ac.tmps.getD 1 undef = .pointer (some ⟨n1, 0, none⟩) := (ho 1 (by kernel_rfl)).trans rfl
      unfold Oper.wp
      go_simp
      exact Stepped.at rfl hd (Below.refl _ _) (FU_mk (.val (cond (gon (gon (true) ((((!(true) || !(true)) || !(true)) || (VT && !(ET)))) false) (BV) true) (.pointer (some ⟨n1, 0, none⟩)) undef)) rfl (by show (_ : Value) = _; first | rfl | (rw [HC.out]; first | rfl | simp) | (rw [HC.out]; simp [*])))
    · intro ac wx hb hd hs ho hp
      have hg : ac.tmps.getD 65 undef = cond (gon (true) ((((!(true) || !(true)) || !(true)) || (VT && !(ET)))) false) (.bool (BV)) undef := ival_at hp 27 65 (by kernel_rfl) rfl
      rcases Bool.eq_false_or_eq_true (gon (gon (true) ((((!(true) || !(true)) || !(true)) || (VT && !(ET)))) false) (BV) true) with hc | hc
      rotate_left
      · exact Or.inr ⟨(wanted_gon (k := 27) (d := 65) rfl (by kernel_rfl) hg).trans hc, fun d hd => FU_mk (.val _) rfl (by rw [hc]; rfl)⟩
      refine Or.inl ⟨(wanted_gon (k := 27) (d := 65) rfl (by kernel_rfl) hg).trans hc, ?_⟩
      have HC := Lib.hid hc
      clear hg hc
      have h66 : ac.tmps.getD 66 undef = cond (gon (gon (true) ((((!(true) || !(true)) || !(true)) || (VT && !(ET)))) false) (BV) true) (.pointer (some ⟨n1, 0, none⟩)) undef := ival_at hp 28 66 (by kernel_rfl) rfl
      rw [HC.out, cond_true] at h66
      have hx := Q1.out.grow hb
      have x0 := cells_at hx 0 _ rfl
      have x1 := cells_at hx 1 _ rfl
      have x2 := cells_at hx 2 _ rfl
      have x3 := cells_at hx 3 _ rfl
      unfold Oper.wp
      go_simp
      exact Stepped.at rfl hd (Below.refl _ _) (FU_mk (.val (cond (gon (gon (true) ((((!(true) || !(true)) || !(true)) || (VT && !(ET)))) false) (BV) true) (.int .u8 k) undef)) rfl (by show (_ : Value) = _; first | rfl | (rw [HC.out]; first | rfl | simp) | (rw [HC.out]; simp [*])))
    · intro ac wx hb hd hs ho hp
      have hg : ac.tmps.getD 65 undef = cond (gon (true) ((((!(true) || !(true)) || !(true)) || (VT && !(ET)))) false) (.bool (BV)) undef := ival_at hp 27 65 (by kernel_rfl) rfl
      rcases Bool.eq_false_or_eq_true (gon (gon (true) ((((!(true) || !(true)) || !(true)) || (VT && !(ET)))) false) (BV) true) with hc | hc
      rotate_left
      · exact Or.inr ⟨(wanted_gon (k := 27) (d := 65) rfl (by kernel_rfl) hg).trans hc, fun d hd => FU_mk (.val _) rfl (by rw [hc]; rfl)⟩
      refine Or.inl ⟨(wanted_gon (k := 27) (d := 65) rfl (by kernel_rfl) hg).trans hc, ?_⟩
      have HC := Lib.hid hc
      clear hg hc
      have h67 : ac.tmps.getD 67 undef = cond (gon (gon (true) ((((!(true) || !(true)) || !(true)) || (VT && !(ET)))) false) (BV) true) (.int .u8 k) undef := ival_at hp 29 67 (by kernel_rfl) rfl
      rw [HC.out, cond_true] at h67
      unfold Oper.wp
      go_simp
      exact Stepped.at rfl hd (Below.refl _ _) (FU_mk (.val (cond (gon (gon (true) ((((!(true) || !(true)) || !(true)) || (VT && !(ET)))) false) (BV) true) (.bool (BK)) undef)) rfl (by show (_ : Value) = _; first | rfl | (rw [HC.out]; rw [← hBK]; first | rfl | simp) | (rw [HC.out]; simp [*])))
    · intro ac wx hb hd hs ho hp
      have hg : ac.tmps.getD 65 undef = cond (gon (true) ((((!(true) || !(true)) || !(true)) || (VT && !(ET)))) false) (.bool (BV)) undef := ival_at hp 27 65 (by kernel_rfl) rfl
      rcases Bool.eq_false_or_eq_true (gon (gon (true) ((((!(true) || !(true)) || !(true)) || (VT && !(ET)))) false) (BV) true) with hc | hc
      rotate_left
      · exact Or.inr ⟨(wanted_gon (k := 27) (d := 65) rfl (by kernel_rfl) hg).trans hc, fun d hd => FU_mk (.val _) rfl (by rw [hc]; rfl)⟩
      refine Or.inl ⟨(wanted_gon (k := 27) (d := 65) rfl (by kernel_rfl) hg).trans hc, ?_⟩
      have HC := Lib.hid hc
      clear hg hc
      have h68 : ac.tmps.getD 68 undef = cond (gon (gon (true) ((((!(true) || !(true)) || !(true)) || (VT && !(ET)))) false) (BV) true) (.bool (BK)) undef := ival_at hp 30 68 (by kernel_rfl) rfl
      rw [HC.out, cond_true] at h68
      unfold Oper.wp
      go_simp
      exact Stepped.at rfl hd (Below.refl _ _) (FU_mk (.val (cond (gon (gon (true) ((((!(true) || !(true)) || !(true)) || (VT && !(ET)))) false) (BV) true) (.bool (BK)) undef)) rfl (by show (_ : Value) = _; first | rfl | (rw [HC.out]; first | rfl | simp) | (rw [HC.out]; simp [*])))
    · intro ac wx hb hd hs ho hp
      have hg : ac.tmps.getD 69 undef = cond (gon (gon (true) ((((!(true) || !(true)) || !(true)) || (VT && !(ET)))) false) (BV) true) (.bool (BK)) undef := ival_at hp 31 69 (by kernel_rfl) rfl
      rcases Bool.eq_false_or_eq_true (gon (gon (gon (true) ((((!(true) || !(true)) || !(true)) || (VT && !(ET)))) false) (BV) true) (BK) false) with hc | hc
      rotate_left
      · exact Or.inr ⟨(wanted_gon (k := 31) (d := 69) rfl (by kernel_rfl) hg).trans hc, fun d hd => FU_mk (.val _) rfl (by rw [hc]; rfl)⟩
      refine Or.inl ⟨(wanted_gon (k := 31) (d := 69) rfl (by kernel_rfl) hg).trans hc, ?_⟩
      have HC := Lib.hid hc
      clear hg hc
      have h3 : ac.tmps.getD 3 undef = .pointer (some ⟨n3, 0, none⟩) := (ho 3 (by kernel_rfl)).trans rfl
      unfold Oper.wp
      go_simp
      exact Stepped.at rfl hd (Below.refl _ _) (FU_mk (.val (cond (gon (gon (gon (true) ((((!(true) || !(true)) || !(true)) || (VT && !(ET)))) false) (BV) true) (BK) false) (.pointer (some ⟨n3, 3, none⟩)) undef)) rfl (by show (_ : Value) = _; first | rfl | (rw [HC.out]; first | rfl | simp) | (rw [HC.out]; simp [*])))
    · intro ac wx hb hd hs ho hp
      have hg : ac.tmps.getD 69 undef = cond (gon (gon (true) ((((!(true) || !(true)) || !(true)) || (VT && !(ET)))) false) (BV) true) (.bool (BK)) undef := ival_at hp 31 69 (by kernel_rfl) rfl
      rcases Bool.eq_false_or_eq_true (gon (gon (gon (true) ((((!(true) || !(true)) || !(true)) || (VT && !(ET)))) false) (BV) true) (BK) false) with hc | hc
      rotate_left
      · exact Or.inr ⟨(wanted_gon (k := 31) (d := 69) rfl (by kernel_rfl) hg).trans hc, fun d hd => FU_mk (.val _) rfl (by rw [hc]; rfl)⟩
      refine Or.inl ⟨(wanted_gon (k := 31) (d := 69) rfl (by kernel_rfl) hg).trans hc, ?_⟩
      have HC := Lib.hid hc
      clear hg hc
      have h70 : ac.tmps.getD 70 undef = cond (gon (gon (gon (true) ((((!(true) || !(true)) || !(true)) || (VT && !(ET)))) false) (BV) true) (BK) false) (.pointer (some ⟨n3, 3, none⟩)) undef := ival_at hp 32 70 (by kernel_rfl) rfl
      rw [HC.out, cond_true] at h70
      have hx := Q3.out.grow hb
      have x0 := cells_at hx 0 _ rfl
      have x1 := cells_at hx 1 _ rfl
      have x2 := cells_at hx 2 _ rfl
      have x3 := cells_at hx 3 _ rfl
      unfold Oper.wp
      go_simp
      exact Stepped.at rfl hd (Below.refl _ _) (FU_mk (.val (cond (gon (gon (gon (true) ((((!(true) || !(true)) || !(true)) || (VT && !(ET)))) false) (BV) true) (BK) false) (.slice va vs.length vcap) undef)) rfl (by show (_ : Value) = _; first | rfl | (rw [HC.out]; first | rfl | simp) | (rw [HC.out]; simp [*])))
    · intro ac wx hb hd hs ho hp
      have hg : ac.tmps.getD 69 undef = cond (gon (gon (true) ((((!(true) || !(true)) || !(true)) || (VT && !(ET)))) false) (BV) true) (.bool (BK)) undef := ival_at hp 31 69 (by kernel_rfl) rfl
      rcases Bool.eq_false_or_eq_true (gon (gon (gon (true) ((((!(true) || !(true)) || !(true)) || (VT && !(ET)))) false) (BV) true) (BK) false) with hc | hc
      rotate_left
      · exact Or.inr ⟨(wanted_gon (k := 31) (d := 69) rfl (by kernel_rfl) hg).trans hc, fun d hd => FU_mk (.val _) rfl (by rw [hc]; rfl)⟩
      refine Or.inl ⟨(wanted_gon (k := 31) (d := 69) rfl (by kernel_rfl) hg).trans hc, ?_⟩
      have HC := Lib.hid hc
      clear hg hc
      have h71 : ac.tmps.getD 71 undef = cond (gon (gon (gon (true) ((((!(true) || !(true)) || !(true)) || (VT && !(ET)))) false) (BV) true) (BK) false) (.slice va vs.length vcap) undef := ival_at hp 33 71 (by kernel_rfl) rfl
      rw [HC.out, cond_true] at h71
      unfold Oper.wp
      go_simp
      exact Stepped.at rfl hd (Below.refl _ _) (FU_mk (.val (cond (gon (gon (gon (true) ((((!(true) || !(true)) || !(true)) || (VT && !(ET)))) false) (BV) true) (BK) false) (.int .i64 ((vs.length : Int))) undef)) rfl (by show (_ : Value) = _; first | rfl | (rw [HC.out]; first | rfl | simp) | (rw [HC.out]; simp [*])))
    · intro ac wx hb hd hs ho hp
      have hg : ac.tmps.getD 69 undef = cond (gon (gon (true) ((((!(true) || !(true)) || !(true)) || (VT && !(ET)))) false) (BV) true) (.bool (BK)) undef := ival_at hp 31 69 (by kernel_rfl) rfl
      rcases Bool.eq_false_or_eq_true (gon (gon (gon (true) ((((!(true) || !(true)) || !(true)) || (VT && !(ET)))) false) (BV) true) (BK) false) with hc | hc
      rotate_left
      · exact Or.inr ⟨(wanted_gon (k := 31) (d := 69) rfl (by kernel_rfl) hg).trans hc, fun d hd => FU_mk (.val _) rfl (by rw [hc]; rfl)⟩
      refine Or.inl ⟨(wanted_gon (k := 31) (d := 69) rfl (by kernel_rfl) hg).trans hc, ?_⟩
      have HC := Lib.hid hc
      clear hg hc
      have h1 : ac.tmps.getD 1 undef = .pointer (some ⟨n1, 0, none⟩) := (ho 1 (by kernel_rfl)).trans rfl
      unfold Oper.wp
      go_simp
      exact Stepped.at rfl hd (Below.refl _ _) (FU_mk (.val (cond (gon (gon (gon (true) ((((!(true) || !(true)) || !(true)) || (VT && !(ET)))) false) (BV) true) (BK) false) (.pointer (some ⟨n1, 3, none⟩)) undef)) rfl (by show (_ : Value) = _; first | rfl | (rw [HC.out]; first | rfl | simp) | (rw [HC.out]; simp [*])))
    · intro ac wx hb hd hs ho hp
      have hg : ac.tmps.getD 69 undef = cond (gon (gon (true) ((((!(true) || !(true)) || !(true)) || (VT && !(ET)))) false) (BV) true) (.bool (BK)) undef := ival_at hp 31 69 (by kernel_rfl) rfl
      rcases Bool.eq_false_or_eq_true (gon (gon (gon (true) ((((!(true) || !(true)) || !(true)) || (VT && !(ET)))) false) (BV) true) (BK) false) with hc | hc
      rotate_left
      · exact Or.inr ⟨(wanted_gon (k := 31) (d := 69) rfl (by kernel_rfl) hg).trans hc, fun d hd => FU_mk (.val _) rfl (by rw [hc]; rfl)⟩
      refine Or.inl ⟨(wanted_gon (k := 31) (d := 69) rfl (by kernel_rfl) hg).trans hc, ?_⟩
      have HC := Lib.hid hc
      clear hg hc
      have h73 : ac.tmps.getD 73 undef = cond (gon (gon (gon (true) ((((!(true) || !(true)) || !(true)) || (VT && !(ET)))) false) (BV) true) (BK) false) (.pointer (some ⟨n1, 3, none⟩)) undef := ival_at hp 35 73 (by kernel_rfl) rfl
      rw [HC.out, cond_true] at h73
      have hx := Q1.out.grow hb
      have x0 := cells_at hx 0 _ rfl
      have x1 := cells_at hx 1 _ rfl
      have x2 := cells_at hx 2 _ rfl
      have x3 := cells_at hx 3 _ rfl
      unfold Oper.wp
      go_simp
      exact Stepped.at rfl hd (Below.refl _ _) (FU_mk (.val (cond (gon (gon (gon (true) ((((!(true) || !(true)) || !(true)) || (VT && !(ET)))) false) (BV) true) (BK) false) (.slice a us.length cap) undef)) rfl (by show (_ : Value) = _; first | rfl | (rw [HC.out]; first | rfl | simp) | (rw [HC.out]; simp [*])))
    · intro ac wx hb hd hs ho hp
      have hg : ac.tmps.getD 69 undef = cond (gon (gon (true) ((((!(true) || !(true)) || !(true)) || (VT && !(ET)))) false) (BV) true) (.bool (BK)) undef := ival_at hp 31 69 (by kernel_rfl) rfl
      rcases Bool.eq_false_or_eq_true (gon (gon (gon (true) ((((!(true) || !(true)) || !(true)) || (VT && !(ET)))) false) (BV) true) (BK) false) with hc | hc
      rotate_left
      · exact Or.inr ⟨(wanted_gon (k := 31) (d := 69) rfl (by kernel_rfl) hg).trans hc, fun d hd => FU_mk (.val _) rfl (by rw [hc]; rfl)⟩
      refine Or.inl ⟨(wanted_gon (k := 31) (d := 69) rfl (by kernel_rfl) hg).trans hc, ?_⟩
      have HC := Lib.hid hc
      clear hg hc
      have h74 : ac.tmps.getD 74 undef = cond (gon (gon (gon (true) ((((!(true) || !(true)) || !(true)) || (VT && !(ET)))) false) (BV) true) (BK) false) (.slice a us.length cap) undef := ival_at hp 36 74 (by kernel_rfl) rfl
      rw [HC.out, cond_true] at h74
      unfold Oper.wp
      go_simp
      exact Stepped.at rfl hd (Below.refl _ _) (FU_mk (.val (cond (gon (gon (gon (true) ((((!(true) || !(true)) || !(true)) || (VT && !(ET)))) false) (BV) true) (BK) false) (.int .i64 ((us.length : Int))) undef)) rfl (by show (_ : Value) = _; first | rfl | (rw [HC.out]; first | rfl | simp) | (rw [HC.out]; simp [*])))
    · intro ac wx hb hd hs ho hp
      have hg : ac.tmps.getD 69 undef = cond (gon (gon (true) ((((!(true) || !(true)) || !(true)) || (VT && !(ET)))) false) (BV) true) (.bool (BK)) undef := ival_at hp 31 69 (by kernel_rfl) rfl
      rcases Bool.eq_false_or_eq_true (gon (gon (gon (true) ((((!(true) || !(true)) || !(true)) || (VT && !(ET)))) false) (BV) true) (BK) false) with hc | hc
      rotate_left
      · exact Or.inr ⟨(wanted_gon (k := 31) (d := 69) rfl (by kernel_rfl) hg).trans hc, fun d hd => FU_mk (.val _) rfl (by rw [hc]; rfl)⟩
      refine Or.inl ⟨(wanted_gon (k := 31) (d := 69) rfl (by kernel_rfl) hg).trans hc, ?_⟩
      have HC := Lib.hid hc
      clear hg hc
      have h72 : ac.tmps.getD 72 undef = cond (gon (gon (gon (true) ((((!(true) || !(true)) || !(true)) || (VT && !(ET)))) false) (BV) true) (BK) false) (.int .i64 ((vs.length : Int))) undef := ival_at hp 34 72 (by kernel_rfl) rfl
      rw [HC.out, cond_true] at h72
      have h75 : ac.tmps.getD 75 undef = cond (gon (gon (gon (true) ((((!(true) || !(true)) || !(true)) || (VT && !(ET)))) false) (BV) true) (BK) false) (.int .i64 ((us.length : Int))) undef := ival_at hp 37 75 (by kernel_rfl) rfl
      rw [HC.out, cond_true] at h75
      unfold Oper.wp
      go_simp
      exact Stepped.at rfl hd (Below.refl _ _) (FU_mk (.val (cond (gon (gon (gon (true) ((((!(true) || !(true)) || !(true)) || (VT && !(ET)))) false) (BV) true) (BK) false) (.bool (B76)) undef)) rfl (by show (_ : Value) = _; first | rfl | (rw [HC.out]; rw [← hB76]; first | rfl | simp) | (rw [HC.out]; simp [*])))
    · intro ac wx hb hd hs ho hp
      have hg : ac.tmps.getD 65 undef = cond (gon (true) ((((!(true) || !(true)) || !(true)) || (VT && !(ET)))) false) (.bool (BV)) undef := ival_at hp 27 65 (by kernel_rfl) rfl
      rcases Bool.eq_false_or_eq_true (gon (gon (true) ((((!(true) || !(true)) || !(true)) || (VT && !(ET)))) false) (BV) true) with hc | hc
      rotate_left
      · exact Or.inr ⟨(wanted_gon (k := 27) (d := 65) rfl (by kernel_rfl) hg).trans hc, fun d hd => FU_mk (.val _) rfl (by rw [hc]; rfl)⟩
      refine Or.inl ⟨(wanted_gon (k := 27) (d := 65) rfl (by kernel_rfl) hg).trans hc, ?_⟩
      have HC := Lib.hid hc
      clear hg hc
      have h69 : ac.tmps.getD 69 undef = cond (gon (gon (true) ((((!(true) || !(true)) || !(true)) || (VT && !(ET)))) false) (BV) true) (.bool (BK)) undef := ival_at hp 31 69 (by kernel_rfl) rfl
      rw [HC.out, cond_true] at h69
      rcases Bool.eq_false_or_eq_true (BK) with e | e
      · rw [e] at h69
        have E := Lib.hid e
        clear e
        unfold Oper.wp
        go_simp
        exact Stepped.at rfl hd (Below.refl _ _) (FU_mk (.val (cond (gon (gon (true) ((((!(true) || !(true)) || !(true)) || (VT && !(ET)))) false) (BV) true) (.bool ((BK || B76))) undef)) rfl (by show (_ : Value) = _; rw [HC.out, cond_true]; first | (simp only [E.out, Bool.true_or]; done) | simp [E.out]))
      · rw [e] at h69
        have E := Lib.hid e
        clear e
        have h76 : ac.tmps.getD 76 undef = cond (gon (gon (gon (true) ((((!(true) || !(true)) || !(true)) || (VT && !(ET)))) false) (BV) true) (BK) false) (.bool (B76)) undef := ival_at hp 38 76 (by kernel_rfl) rfl
        rw [gon_mk HC.out E.out, cond_true] at h76
        unfold Oper.wp
        go_simp
        exact Stepped.at rfl hd (Below.refl _ _) (FU_mk (.val (cond (gon (gon (true) ((((!(true) || !(true)) || !(true)) || (VT && !(ET)))) false) (BV) true) (.bool ((BK || B76))) undef)) rfl (by show (_ : Value) = _; rw [HC.out, cond_true]; first | (simp only [E.out, Bool.false_or]; done) | simp [E.out]))
    · intro ac wx hb hd hs ho hp
      have hg : ac.tmps.getD 61 undef = cond (true) (.bool ((((!(true) || !(true)) || !(true)) || (VT && !(ET))))) undef := ival_at hp 23 61 (by kernel_rfl) rfl
      rcases Bool.eq_false_or_eq_true (gon (true) ((((!(true) || !(true)) || !(true)) || (VT && !(ET)))) false) with hc | hc
      rotate_left
      · exact Or.inr ⟨(wanted_gon (k := 23) (d := 61) rfl (by kernel_rfl) hg).trans hc, fun d hd => FU_mk (.val _) rfl (by rw [hc]; rfl)⟩
      refine Or.inl ⟨(wanted_gon (k := 23) (d := 61) rfl (by kernel_rfl) hg).trans hc, ?_⟩
      have HC := Lib.hid hc
      clear hg hc
      have h65 : ac.tmps.getD 65 undef = cond (gon (true) ((((!(true) || !(true)) || !(true)) || (VT && !(ET)))) false) (.bool (BV)) undef := ival_at hp 27 65 (by kernel_rfl) rfl
      rw [HC.out, cond_true] at h65
      rcases Bool.eq_false_or_eq_true (BV) with e | e
      · rw [e] at h65
        have E := Lib.hid e
        clear e
        have h77 : ac.tmps.getD 77 undef = cond (gon (gon (true) ((((!(true) || !(true)) || !(true)) || (VT && !(ET)))) false) (BV) true) (.bool ((BK || B76))) undef := ival_at hp 39 77 (by kernel_rfl) rfl
        rw [gon_mk HC.out E.out, cond_true] at h77
        unfold Oper.wp
        go_simp
        exact Stepped.at rfl hd (Below.refl _ _) (FU_mk (.val (cond (gon (true) ((((!(true) || !(true)) || !(true)) || (VT && !(ET)))) false) (.bool ((BV && (BK || B76)))) undef)) rfl (by show (_ : Value) = _; rw [HC.out, cond_true]; first | (simp only [E.out, Bool.true_and]; done) | simp [E.out]))
      · rw [e] at h65
        have E := Lib.hid e
        clear e
        unfold Oper.wp
        go_simp
        exact Stepped.at rfl hd (Below.refl _ _) (FU_mk (.val (cond (gon (true) ((((!(true) || !(true)) || !(true)) || (VT && !(ET)))) false) (.bool ((BV && (BK || B76)))) undef)) rfl (by show (_ : Value) = _; rw [HC.out, cond_true]; first | (simp only [E.out, Bool.false_and]; done) | simp [E.out]))
    · intro ac wx hb hd hs ho hp
      refine Or.inl ⟨rfl, ?_⟩
      have h61 : ac.tmps.getD 61 undef = .bool ((((!(true) || !(true)) || !(true)) || (VT && !(ET)))) := ival_at hp 23 61 (by kernel_rfl) rfl
      rcases Bool.eq_false_or_eq_true ((((!(true) || !(true)) || !(true)) || (VT && !(ET)))) with e | e
      · rw [e] at h61
        have E := Lib.hid e
        clear e
        unfold Oper.wp
        go_simp
        exact Stepped.at rfl hd (Below.refl _ _) (FU_mk (.val (.bool (((((!(true) || !(true)) || !(true)) || (VT && !(ET))) || (BV && (BK || B76)))))) rfl (by show (_ : Value) = _; first | (simp only [E.out, Bool.true_or]; done) | simp [E.out]))
      · rw [e] at h61
        have E := Lib.hid e
        clear e
        have h78 : ac.tmps.getD 78 undef = cond (gon (true) ((((!(true) || !(true)) || !(true)) || (VT && !(ET)))) false) (.bool ((BV && (BK || B76)))) undef := ival_at hp 40 78 (by kernel_rfl) rfl
        rw [gon_mk rfl E.out, cond_true] at h78
        unfold Oper.wp
        go_simp
        exact Stepped.at rfl hd (Below.refl _ _) (FU_mk (.val (.bool (((((!(true) || !(true)) || !(true)) || (VT && !(ET))) || (BV && (BK || B76)))))) rfl (by show (_ : Value) = _; first | (simp only [E.out, Bool.false_or]; done) | simp [E.out]))
  intro ac wx hJ
  have f79 : ac.tmps.getD 79 undef = .bool (((((!(true) || !(true)) || !(true)) || (VT && !(ET))) || (BV && (BK || B76)))) := FU_at (.val (.bool (((((!(true) || !(true)) || !(true)) || (VT && !(ET))) || (BV && (BK || B76)))))) rfl (hJ.at_end 41 79 (by kernel_rfl))
  have e79 : (((((!(true) || !(true)) || !(true)) || (VT && !(ET))) || (BV && (BK || B76)))) = false := HM.out
  rw [e79] at f79
  clear e79
  obtain ⟨u38, f38⟩ : ∃ u, ac.tmps.getD 38 undef = u := ⟨_, rfl⟩
  obtain ⟨u39, f39⟩ : ∃ u, ac.tmps.getD 39 undef = u := ⟨_, rfl⟩
  obtain ⟨u40, f40⟩ : ∃ u, ac.tmps.getD 40 undef = u := ⟨_, rfl⟩
  obtain ⟨u41, f41⟩ : ∃ u, ac.tmps.getD 41 undef = u := ⟨_, rfl⟩
  obtain ⟨u42, f42⟩ : ∃ u, ac.tmps.getD 42 undef = u := ⟨_, rfl⟩
  obtain ⟨u43, f43⟩ : ∃ u, ac.tmps.getD 43 undef = u := ⟨_, rfl⟩
  obtain ⟨u44, f44⟩ : ∃ u, ac.tmps.getD 44 undef = u := ⟨_, rfl⟩
  obtain ⟨u45, f45⟩ : ∃ u, ac.tmps.getD 45 undef = u := ⟨_, rfl⟩
  obtain ⟨u46, f46⟩ : ∃ u, ac.tmps.getD 46 undef = u := ⟨_, rfl⟩
  obtain ⟨u47, f47⟩ : ∃ u, ac.tmps.getD 47 undef = u := ⟨_, rfl⟩
  obtain ⟨u48, f48⟩ : ∃ u, ac.tmps.getD 48 undef = u := ⟨_, rfl⟩
  obtain ⟨u49, f49⟩ : ∃ u, ac.tmps.getD 49 undef = u := ⟨_, rfl⟩
  obtain ⟨u50, f50⟩ : ∃ u, ac.tmps.getD 50 undef = u := ⟨_, rfl⟩
  obtain ⟨u51, f51⟩ : ∃ u, ac.tmps.getD 51 undef = u := ⟨_, rfl⟩
  obtain ⟨u52, f52⟩ : ∃ u, ac.tmps.getD 52 undef = u := ⟨_, rfl⟩
  obtain ⟨u53, f53⟩ : ∃ u, ac.tmps.getD 53 undef = u := ⟨_, rfl⟩
  obtain ⟨u54, f54⟩ : ∃ u, ac.tmps.getD 54 undef = u := ⟨_, rfl⟩
  obtain ⟨u55, f55⟩ : ∃ u, ac.tmps.getD 55 undef = u := ⟨_, rfl⟩
  obtain ⟨u56, f56⟩ : ∃ u, ac.tmps.getD 56 undef = u := ⟨_, rfl⟩
  obtain ⟨u57, f57⟩ : ∃ u, ac.tmps.getD 57 undef = u := ⟨_, rfl⟩
  obtain ⟨u58, f58⟩ : ∃ u, ac.tmps.getD 58 undef = u := ⟨_, rfl⟩
  obtain ⟨u59, f59⟩ : ∃ u, ac.tmps.getD 59 undef = u := ⟨_, rfl⟩
  obtain ⟨u60, f60⟩ : ∃ u, ac.tmps.getD 60 undef = u := ⟨_, rfl⟩
  obtain ⟨u61, f61⟩ : ∃ u, ac.tmps.getD 61 undef = u := ⟨_, rfl⟩
  obtain ⟨u62, f62⟩ : ∃ u, ac.tmps.getD 62 undef = u := ⟨_, rfl⟩
  obtain ⟨u63, f63⟩ : ∃ u, ac.tmps.getD 63 undef = u := ⟨_, rfl⟩
  obtain ⟨u64, f64⟩ : ∃ u, ac.tmps.getD 64 undef = u := ⟨_, rfl⟩
  obtain ⟨u65, f65⟩ : ∃ u, ac.tmps.getD 65 undef = u := ⟨_, rfl⟩
  obtain ⟨u66, f66⟩ : ∃ u, ac.tmps.getD 66 undef = u := ⟨_, rfl⟩
  obtain ⟨u67, f67⟩ : ∃ u, ac.tmps.getD 67 undef = u := ⟨_, rfl⟩
  obtain ⟨u68, f68⟩ : ∃ u, ac.tmps.getD 68 undef = u := ⟨_, rfl⟩
  obtain ⟨u69, f69⟩ : ∃ u, ac.tmps.getD 69 undef = u := ⟨_, rfl⟩
  obtain ⟨u70, f70⟩ : ∃ u, ac.tmps.getD 70 undef = u := ⟨_, rfl⟩
  obtain ⟨u71, f71⟩ : ∃ u, ac.tmps.getD 71 undef = u := ⟨_, rfl⟩
  obtain ⟨u72, f72⟩ : ∃ u, ac.tmps.getD 72 undef = u := ⟨_, rfl⟩
  obtain ⟨u73, f73⟩ : ∃ u, ac.tmps.getD 73 undef = u := ⟨_, rfl⟩
  obtain ⟨u74, f74⟩ : ∃ u, ac.tmps.getD 74 undef = u := ⟨_, rfl⟩
  obtain ⟨u75, f75⟩ : ∃ u, ac.tmps.getD 75 undef = u := ⟨_, rfl⟩
  obtain ⟨u76, f76⟩ : ∃ u, ac.tmps.getD 76 undef = u := ⟨_, rfl⟩
  obtain ⟨u77, f77⟩ : ∃ u, ac.tmps.getD 77 undef = u := ⟨_, rfl⟩
  obtain ⟨u78, f78⟩ : ∃ u, ac.tmps.getD 78 undef = u := ⟨_, rfl⟩
  have b := hJ.below
  obtain ⟨TT, DD⟩ := ac
  obtain rfl : DD = [] := hJ.defers
  have hE := slots_merge [false, false, false, false, false, false, false, false, false, false, false, false, false, false, false, false, false, false, false, false, false, false, false, false, false, false, false, false, false, false, false, false, false, false, false, false, false, false, true, true, true, true, true, true, true, true, true, true, true, true, true, true, true, true, true, true, true, true, true, true, true, true, true, true, true, true, true, true, true, true, true, true, true, true, true, true, true, true, true, true, false, false, false, false, false, false, false, false, false, false, false, false, false, false, false, false, false, false, false, false, false, false, false, false, false, false, false, false, false, false, false, false, false, false, false, false, false, false, false, false, false, false, false, false, false, false, false, false, false, false, false, false, false, false, false] 135 hJ.tmps rfl (by kernel_rfl) hJ.outer
  simp only [mergeFrom, Nat.zero_add, Nat.reduceAdd, f38, f39, f40, f41, f42, f43, f44, f45, f46, f47, f48, f49, f50, f51, f52, f53, f54, f55, f56, f57, f58, f59, f60, f61, f62, f63, f64, f65, f66, f67, f68, f69, f70, f71, f72, f73, f74, f75, f76, f77, f78, f79] at hE
  clear hJ f38 f39 f40 f41 f42 f43 f44 f45 f46 f47 f48 f49 f50 f51 f52 f53 f54 f55 f56 f57 f58 f59 f60 f61 f62 f63 f64 f65 f66 f67 f68 f69 f70 f71 f72 f73 f74 f75 f76 f77 f78 f79 hB76
  subst hE
  clear hBV hBK HM EQ1 EV1 EV2 EQ2
  have q := Lib.hid (Q1.out.grow b)
  clear Q1
  have Q1 := q
  clear q
  have q := Lib.hid (Q3.out.grow b)
  clear Q3
  have Q3 := q
  clear q
  have q := Lib.hid (Q5.out.grow b)
  clear Q5
  have Q5 := q
  clear q
  have q := Lib.hid ((HV.out.below b).mono b.size)
  clear HV
  have HV := q
  clear q
  have q := Lib.hid ((HW.out.below b).mono b.size)
  clear HW
  have HW := q
  clear q
  have q := Lib.hid (BW.out.trans (b.mono BW.out.size))
  clear b BW
  have BW := q
  clear q
  refine HK2.out _ _ ?_
  clear HK2
  go_wp2_with fail
  refine HK.out _ _ ?_
  clear HK
  obtain ⟨i0, hi, hz0, hz1, hz2⟩ := info_parts info_int
  clear Q5 HW HEV HVB HTV HDP HVA
  go_wp2_with fail
  go_loopw [7, 8] (fun v i wr => ∃ j : Nat, j ≤ us.length ∧ i = .int .i64 j ∧ Nums wx.heap.size wr v ((xs.take j).map Tm.num) ∧ Below wx.heap.size wx wr) (fun _ i _ => us.length - (intOf i).toNat)
  case atStart => exact ⟨0, by omega, by go_num, Nums.nil _ _, Below.refl _ _⟩
  case round =>
    obtain ⟨j, hj, rfl, hN, hBr⟩ := hrel
    have HNr := Lib.hid hN
    have HBw := Lib.hid hBr
    have R1 := Lib.hid (Q1.out.grow hBr)
    have R3 := Lib.hid (Q3.out.grow hBr)
    have HVr := Lib.hid ((HV.out.below hBr).mono hBr.size)
    have HBT := Lib.hid (BW.out.trans (hBr.mono BW.out.size))
    clear hN hBr
    have x0 := cells_at R1.out 0 _ rfl
    have x1 := cells_at R1.out 1 _ rfl
    have x2 := cells_at R1.out 2 _ rfl
    have x3 := cells_at R1.out 3 _ rfl
    have i1 : (0 : Int) ≤ (j : Int) := by omega
    have hul := HUL.out
    have hxl := HXL.out
    by_cases hlt : j < us.length
    · obtain ⟨bb, off, rfl, hbl, hI⟩ := HARG.out (by intro e; rw [e] at hlt; simp at hlt)
      obtain ⟨c0, c1, c2, c3, t0, t1, t2, t3, hc⟩ := hI.at j hlt
      have g0 := (HBT.out.cell (p := ⟨bb, off + j * 4, none⟩) hbl).trans t0
      have g1 := (HBT.out.cell (p := ⟨bb, off + j * 4 + 1, none⟩) hbl).trans t1
      have g2 := (HBT.out.cell (p := ⟨bb, off + j * 4 + 2, none⟩) hbl).trans t2
      have g3 := (HBT.out.cell (p := ⟨bb, off + j * 4 + 3, none⟩) hbl).trans t3
      have HCJ := Lib.hid ((hc.below HBT.out).mono HBT.out.size)
      have i2 : (j : Int) < (us.length : Int) := by omega
      have hjx : j < xs.length := by omega
      have HXJ := Lib.hid (HXA.out j hlt hjx)
      have HDJ := Lib.hid (show us[j].depth < 4611686018427387900 by have := node_depth us[j] 1 (evalT_parts HXJ.out).2.1; omega)
      obtain ⟨x, hx⟩ : ∃ x, xs[j] = x := ⟨_, rfl⟩
      have HTK := Lib.hid (show (xs.take (j + 1)).map Tm.num = (xs.take j).map Tm.num ++ [x.num] by rw [List.take_succ_eq_append_getElem hjx, hx]; simp)
      have HXQ := Lib.hid hx
      rw [hx] at HXJ
      clear t0 t1 t2 t3 hc hI hx
      go_wp2_with (go_at_call 20; refine (eval_any us[j] c0 c1 c2 c3 wr HCJ.out HDJ.out).mono ?_)
      rintro e V1 ⟨d0, d1, d2, d3, bq, rfl, b, hres⟩
      clear x0 x1 x2 x3 g0 g1 g2 g3 HCJ HDJ
      rcases hres with ⟨hnone, _⟩ | ⟨x', hsome, rfl, hv⟩
      · rw [HXJ.out] at hnone; cases hnone
      rw [HXJ.out] at hsome
      obtain rfl := Option.some.inj hsome
      have hvI := hv.isTm (B := V1.heap.size) (fun _ h => h.2)
      obtain ⟨kx, nx, sx, ys⟩ := x
      have hv2 := hvI
      simp only [IsTm] at hv2
      obtain ⟨rfl, _, rfl, hnx, rfl, _, xa, xcap, rfl, hyl, _⟩ := hv2
      have HX := Lib.hid hvI
      have HNX := Lib.hid hnx
      clear hv hvI hsome HXJ hnx
      have HNr2 := Lib.hid (show Nums wx.heap.size V1 _ _ from HNr.out.grow b)
      clear HNr
      have q := Lib.hid (R1.out.grow b)
      clear R1
      have R1 := q
      clear q
      have q := Lib.hid (R3.out.grow b)
      clear R3
      have R3 := q
      clear q
      have q := Lib.hid ((HVr.out.below b).mono b.size)
      clear HVr
      have HVr := q
      clear q
      have q := Lib.hid (HBw.out.trans (b.mono HBw.out.size))
      clear b HBw
      have HBw := q
      clear q
      go_wp2_with fail
      have b : Below V1.heap.size V1 (V1.alloc (.cells #[.int .u8 kx, .int .i64 nx, .string sx, .slice xa ys.length xcap] 32)) := (Below.refl _ _).alloc (Nat.le_refl _) _
      have qn := Row4.new V1 #[.int .u8 kx, .int .i64 nx, .string sx, .slice xa ys.length xcap]
      revert b qn
      generalize (V1.alloc (.cells #[.int .u8 kx, .int .i64 nx, .string sx, .slice xa ys.length xcap] 32)) = V2
      intro b qn
      obtain ⟨n9, hn9⟩ : ∃ p, V1.heap.size = p := ⟨_, rfl⟩
      simp only [hn9] at qn ⊢
      clear hn9
      have R9 := Lib.hid qn
      clear qn
      have HNr3 := Lib.hid (show Nums wx.heap.size V2 _ _ from HNr2.out.grow b)
      clear HNr2
      have q := Lib.hid (R1.out.grow b)
      clear R1
      have R1 := q
      clear q
      have q := Lib.hid (R3.out.grow b)
      clear R3
      have R3 := q
      clear q
      have q := Lib.hid ((HVr.out.below b).mono b.size)
      clear HVr
      have HVr := q
      clear q
      have q := Lib.hid ((HX.out.below b).mono b.size)
      clear HX
      have HX := q
      clear q
      have q := Lib.hid (HBw.out.trans (b.mono HBw.out.size))
      clear b HBw
      have HBw := q
      clear q
      obtain ⟨vb, vo, q0, q1, q2, q3, H4x⟩ : ∃ (vb vo : Nat) (q0 q1 q2 q3 : Value), k = 4 → (va = some ⟨vb, vo, none⟩ ∧ j < vs.length ∧ (∀ wz, Below V2.heap.size V2 wz → wz.cell? ⟨vb, vo + j * 4, none⟩ = some q0 ∧ wz.cell? ⟨vb, vo + j * 4 + 1, none⟩ = some q1 ∧ wz.cell? ⟨vb, vo + j * 4 + 2, none⟩ = some q2 ∧ wz.cell? ⟨vb, vo + j * 4 + 3, none⟩ = some q3) ∧ Evr V2 21 #[.agg #[.int .u8 kx, .int .i64 nx, .string sx, .slice xa ys.length xcap], .agg #[q0, q1, q2, q3]] (.bool true)) := by
        by_cases hk4 : k = 4
        · have hvx := HX4.out hk4
          injection hvx with _ _ _ hvx
          have hjv : j < vs.length := by rw [hvx]; exact hjx
          have hvr := HVr.out
          simp only [IsTm] at hvr
          obtain ⟨_, _, _, _, _, _, va', vc', hveq, _, hvr2⟩ := hvr
          injection hveq with hva
          subst hva
          obtain ⟨vb, vo, hva2, hvb, hvI⟩ := hvr2 (by intro e; rw [e] at hjv; simp at hjv)
          obtain ⟨q0, q1, q2, q3, f0, f1, f2, f3, hq⟩ := hvI.at j hjv
          refine ⟨vb, vo, q0, q1, q2, q3, fun _ => ⟨hva2, hjv, fun wz hz => ⟨(hz.cell (p := ⟨vb, vo + j * 4, none⟩) hvb).trans f0, (hz.cell (p := ⟨vb, vo + j * 4 + 1, none⟩) hvb).trans f1, (hz.cell (p := ⟨vb, vo + j * 4 + 2, none⟩) hvb).trans f2, (hz.cell (p := ⟨vb, vo + j * 4 + 3, none⟩) hvb).trans f3⟩, ?_⟩⟩
          have hvj : vs[j] = Tm.mk kx nx sx ys := by
            rw [← HXQ.out]
            subst hvx
            rfl
          rw [hvj] at hq
          exact cmp_self (good_of HX.out) ▸ equal_evr HX.out hq
        · exact ⟨0, 0, undef, undef, undef, undef, fun h => absurd h hk4⟩
      have H4 := Lib.hid H4x
      clear H4x
      obtain ⟨BK4, hBK4⟩ : ∃ x, (k == 4) = x := ⟨_, rfl⟩
      refine wp_region_grow_or (by kernel_rfl) (FU (bpDescs16 k n nv kv kx nx s sv sx us vs ys (some ⟨bb, off, none⟩) va xa cap vcap xcap n1 n3 n9 j vb vo q0 q1 q2 q3 BK4 )) (FU_grow _) (by kernel_rfl) (steps_or ?_) ?_
      · refine ⟨?_, ?_, ?_, ?_, ?_, ?_, ?_, ?_, ?_, ?_, ?_, ?_, ?_, ?_, ?_, ?_, ?_, trivial⟩
        · intro ac wz hb hd hs ho hp
          refine Or.inl ⟨rfl, ?_⟩
          have h10 : ac.tmps.getD 10 undef = .bool (true) := (ho 10 (by kernel_rfl)).trans rfl
          unfold Oper.wp
          go_simp
          exact Stepped.at rfl hd (Below.refl _ _) (FU_mk (.val (.bool (true))) rfl (by show (_ : Value) = _; first | rfl | (first | rfl | simp) | (simp [*])))
        · intro ac wz hb hd hs ho hp
          refine Or.inl ⟨rfl, ?_⟩
          have h96 : ac.tmps.getD 96 undef = .bool (true) := uval_at hp 0 96 (by kernel_rfl) rfl
          unfold Oper.wp
          go_simp
          exact Stepped.at rfl hd (Below.refl _ _) (FU_mk (.val (.bool (!(true)))) rfl (by show (_ : Value) = _; first | rfl | (first | rfl | simp) | (simp [*])))
        · intro ac wz hb hd hs ho hp
          refine Or.inl ⟨rfl, ?_⟩
          have h97 : ac.tmps.getD 97 undef = .bool (!(true)) := uval_at hp 1 97 (by kernel_rfl) rfl
          unfold Oper.wp
          go_simp
          exact Stepped.at rfl hd (Below.refl _ _) (FU_mk (.val (.bool (!(true)))) rfl (by show (_ : Value) = _; first | rfl | (first | rfl | simp) | (simp [*])))
        · intro ac wz hb hd hs ho hp
          have hg : ac.tmps.getD 98 undef = cond (true) (.bool (!(true))) undef := uval_at hp 2 98 (by kernel_rfl) rfl
          rcases Bool.eq_false_or_eq_true (gon (true) (!(true)) false) with hc | hc
          rotate_left
          · exact Or.inr ⟨(wanted_gon (k := 2) (d := 98) rfl (by kernel_rfl) hg).trans hc, fun d hd => FU_mk (.val _) rfl (by rw [hc]; rfl)⟩
          refine Or.inl ⟨(wanted_gon (k := 2) (d := 98) rfl (by kernel_rfl) hg).trans hc, ?_⟩
          have HC := Lib.hid hc
          clear hg hc
          have h1 : ac.tmps.getD 1 undef = .pointer (some ⟨n1, 0, none⟩) := (ho 1 (by kernel_rfl)).trans rfl
          unfold Oper.wp
          go_simp
          exact Stepped.at rfl hd (Below.refl _ _) (FU_mk (.val (cond (gon (true) (!(true)) false) (.pointer (some ⟨n1, 0, none⟩)) undef)) rfl (by show (_ : Value) = _; first | rfl | (rw [HC.out]; first | rfl | simp) | (rw [HC.out]; simp [*])))
        · intro ac wz hb hd hs ho hp
          have hg : ac.tmps.getD 98 undef = cond (true) (.bool (!(true))) undef := uval_at hp 2 98 (by kernel_rfl) rfl
          rcases Bool.eq_false_or_eq_true (gon (true) (!(true)) false) with hc | hc
          rotate_left
          · exact Or.inr ⟨(wanted_gon (k := 2) (d := 98) rfl (by kernel_rfl) hg).trans hc, fun d hd => FU_mk (.val _) rfl (by rw [hc]; rfl)⟩
          refine Or.inl ⟨(wanted_gon (k := 2) (d := 98) rfl (by kernel_rfl) hg).trans hc, ?_⟩
          have HC := Lib.hid hc
          clear hg hc
          have h99 : ac.tmps.getD 99 undef = cond (gon (true) (!(true)) false) (.pointer (some ⟨n1, 0, none⟩)) undef := uval_at hp 3 99 (by kernel_rfl) rfl
          rw [HC.out, cond_true] at h99
          have hx := R1.out.grow hb
          have x0 := cells_at hx 0 _ rfl
          have x1 := cells_at hx 1 _ rfl
          have x2 := cells_at hx 2 _ rfl
          have x3 := cells_at hx 3 _ rfl
          unfold Oper.wp
          go_simp
          exact Stepped.at rfl hd (Below.refl _ _) (FU_mk (.val (cond (gon (true) (!(true)) false) (.int .u8 k) undef)) rfl (by show (_ : Value) = _; first | rfl | (rw [HC.out]; first | rfl | simp) | (rw [HC.out]; simp [*])))
        · intro ac wz hb hd hs ho hp
          have hg : ac.tmps.getD 98 undef = cond (true) (.bool (!(true))) undef := uval_at hp 2 98 (by kernel_rfl) rfl
          rcases Bool.eq_false_or_eq_true (gon (true) (!(true)) false) with hc | hc
          rotate_left
          · exact Or.inr ⟨(wanted_gon (k := 2) (d := 98) rfl (by kernel_rfl) hg).trans hc, fun d hd => FU_mk (.val _) rfl (by rw [hc]; rfl)⟩
          refine Or.inl ⟨(wanted_gon (k := 2) (d := 98) rfl (by kernel_rfl) hg).trans hc, ?_⟩
          have HC := Lib.hid hc
          clear hg hc
          have h100 : ac.tmps.getD 100 undef = cond (gon (true) (!(true)) false) (.int .u8 k) undef := uval_at hp 4 100 (by kernel_rfl) rfl
          rw [HC.out, cond_true] at h100
          unfold Oper.wp
          go_simp
          exact Stepped.at rfl hd (Below.refl _ _) (FU_mk (.val (cond (gon (true) (!(true)) false) (.bool (BK4)) undef)) rfl (by show (_ : Value) = _; first | rfl | (rw [HC.out]; rw [← hBK4]; first | rfl | simp) | (rw [HC.out]; simp [*])))
        · intro ac wz hb hd hs ho hp
          have hg : ac.tmps.getD 98 undef = cond (true) (.bool (!(true))) undef := uval_at hp 2 98 (by kernel_rfl) rfl
          rcases Bool.eq_false_or_eq_true (gon (true) (!(true)) false) with hc | hc
          rotate_left
          · exact Or.inr ⟨(wanted_gon (k := 2) (d := 98) rfl (by kernel_rfl) hg).trans hc, fun d hd => FU_mk (.val _) rfl (by rw [hc]; rfl)⟩
          refine Or.inl ⟨(wanted_gon (k := 2) (d := 98) rfl (by kernel_rfl) hg).trans hc, ?_⟩
          have HC := Lib.hid hc
          clear hg hc
          have h101 : ac.tmps.getD 101 undef = cond (gon (true) (!(true)) false) (.bool (BK4)) undef := uval_at hp 5 101 (by kernel_rfl) rfl
          rw [HC.out, cond_true] at h101
          unfold Oper.wp
          go_simp
          exact Stepped.at rfl hd (Below.refl _ _) (FU_mk (.val (cond (gon (true) (!(true)) false) (.bool (BK4)) undef)) rfl (by show (_ : Value) = _; first | rfl | (rw [HC.out]; first | rfl | simp) | (rw [HC.out]; simp [*])))
        · intro ac wz hb hd hs ho hp
          have hg : ac.tmps.getD 102 undef = cond (gon (true) (!(true)) false) (.bool (BK4)) undef := uval_at hp 6 102 (by kernel_rfl) rfl
          rcases Bool.eq_false_or_eq_true (gon (gon (true) (!(true)) false) (BK4) true) with hc | hc
          rotate_left
          · exact Or.inr ⟨(wanted_gon (k := 6) (d := 102) rfl (by kernel_rfl) hg).trans hc, fun d hd => FU_mk (.val _) rfl (by rw [hc]; rfl)⟩
          refine Or.inl ⟨(wanted_gon (k := 6) (d := 102) rfl (by kernel_rfl) hg).trans hc, ?_⟩
          have HC := Lib.hid hc
          clear hg hc
          have h9 : ac.tmps.getD 9 undef = .pointer (some ⟨n9, 0, none⟩) := (ho 9 (by kernel_rfl)).trans rfl
          have hx := R9.out.grow hb
          have x0 := cells_at hx 0 _ rfl
          have x1 := cells_at hx 1 _ rfl
          have x2 := cells_at hx 2 _ rfl
          have x3 := cells_at hx 3 _ rfl
          unfold Oper.wp
          go_simp
          exact Stepped.at rfl hd (Below.refl _ _) (FU_mk (.val (cond (gon (gon (true) (!(true)) false) (BK4) true) (.agg #[.int .u8 kx, .int .i64 nx, .string sx, .slice xa ys.length xcap]) undef)) rfl (by show (_ : Value) = _; first | rfl | (rw [HC.out]; first | rfl | simp) | (rw [HC.out]; simp [*])))
        · intro ac wz hb hd hs ho hp
          have hg : ac.tmps.getD 102 undef = cond (gon (true) (!(true)) false) (.bool (BK4)) undef := uval_at hp 6 102 (by kernel_rfl) rfl
          rcases Bool.eq_false_or_eq_true (gon (gon (true) (!(true)) false) (BK4) true) with hc | hc
          rotate_left
          · exact Or.inr ⟨(wanted_gon (k := 6) (d := 102) rfl (by kernel_rfl) hg).trans hc, fun d hd => FU_mk (.val _) rfl (by rw [hc]; rfl)⟩
          refine Or.inl ⟨(wanted_gon (k := 6) (d := 102) rfl (by kernel_rfl) hg).trans hc, ?_⟩
          have HC := Lib.hid hc
          clear hg hc
          have h3 : ac.tmps.getD 3 undef = .pointer (some ⟨n3, 0, none⟩) := (ho 3 (by kernel_rfl)).trans rfl
          unfold Oper.wp
          go_simp
          exact Stepped.at rfl hd (Below.refl _ _) (FU_mk (.val (cond (gon (gon (true) (!(true)) false) (BK4) true) (.pointer (some ⟨n3, 3, none⟩)) undef)) rfl (by show (_ : Value) = _; first | rfl | (rw [HC.out]; first | rfl | simp) | (rw [HC.out]; simp [*])))
        · intro ac wz hb hd hs ho hp
          have hg : ac.tmps.getD 102 undef = cond (gon (true) (!(true)) false) (.bool (BK4)) undef := uval_at hp 6 102 (by kernel_rfl) rfl
          rcases Bool.eq_false_or_eq_true (gon (gon (true) (!(true)) false) (BK4) true) with hc | hc
          rotate_left
          · exact Or.inr ⟨(wanted_gon (k := 6) (d := 102) rfl (by kernel_rfl) hg).trans hc, fun d hd => FU_mk (.val _) rfl (by rw [hc]; rfl)⟩
          refine Or.inl ⟨(wanted_gon (k := 6) (d := 102) rfl (by kernel_rfl) hg).trans hc, ?_⟩
          have HC := Lib.hid hc
          clear hg hc
          have h104 : ac.tmps.getD 104 undef = cond (gon (gon (true) (!(true)) false) (BK4) true) (.pointer (some ⟨n3, 3, none⟩)) undef := uval_at hp 8 104 (by kernel_rfl) rfl
          rw [HC.out, cond_true] at h104
          have hx := R3.out.grow hb
          have x0 := cells_at hx 0 _ rfl
          have x1 := cells_at hx 1 _ rfl
          have x2 := cells_at hx 2 _ rfl
          have x3 := cells_at hx 3 _ rfl
          unfold Oper.wp
          go_simp
          exact Stepped.at rfl hd (Below.refl _ _) (FU_mk (.val (cond (gon (gon (true) (!(true)) false) (BK4) true) (.slice va vs.length vcap) undef)) rfl (by show (_ : Value) = _; first | rfl | (rw [HC.out]; first | rfl | simp) | (rw [HC.out]; simp [*])))
        · intro ac wz hb hd hs ho hp
          have hg : ac.tmps.getD 102 undef = cond (gon (true) (!(true)) false) (.bool (BK4)) undef := uval_at hp 6 102 (by kernel_rfl) rfl
          rcases Bool.eq_false_or_eq_true (gon (gon (true) (!(true)) false) (BK4) true) with hc | hc
          rotate_left
          · exact Or.inr ⟨(wanted_gon (k := 6) (d := 102) rfl (by kernel_rfl) hg).trans hc, fun d hd => FU_mk (.val _) rfl (by rw [hc]; rfl)⟩
          refine Or.inl ⟨(wanted_gon (k := 6) (d := 102) rfl (by kernel_rfl) hg).trans hc, ?_⟩
          have HC := Lib.hid hc
          clear hg hc
          have h8 : ac.tmps.getD 8 undef = .int .i64 ((j : Int)) := (ho 8 (by kernel_rfl)).trans rfl
          unfold Oper.wp
          go_simp
          exact Stepped.at rfl hd (Below.refl _ _) (FU_mk (.val (cond (gon (gon (true) (!(true)) false) (BK4) true) (.int .i64 ((j : Int))) undef)) rfl (by show (_ : Value) = _; first | rfl | (rw [HC.out]; first | rfl | simp) | (rw [HC.out]; simp [*])))
        · intro ac wz hb hd hs ho hp
          have hg : ac.tmps.getD 102 undef = cond (gon (true) (!(true)) false) (.bool (BK4)) undef := uval_at hp 6 102 (by kernel_rfl) rfl
          rcases Bool.eq_false_or_eq_true (gon (gon (true) (!(true)) false) (BK4) true) with hc | hc
          rotate_left
          · exact Or.inr ⟨(wanted_gon (k := 6) (d := 102) rfl (by kernel_rfl) hg).trans hc, fun d hd => FU_mk (.val _) rfl (by rw [hc]; rfl)⟩
          refine Or.inl ⟨(wanted_gon (k := 6) (d := 102) rfl (by kernel_rfl) hg).trans hc, ?_⟩
          have HC := Lib.hid hc
          clear hg hc
          have h105 : ac.tmps.getD 105 undef = cond (gon (gon (true) (!(true)) false) (BK4) true) (.slice va vs.length vcap) undef := uval_at hp 9 105 (by kernel_rfl) rfl
          rw [HC.out, cond_true] at h105
          have h106 : ac.tmps.getD 106 undef = cond (gon (gon (true) (!(true)) false) (BK4) true) (.int .i64 ((j : Int))) undef := uval_at hp 10 106 (by kernel_rfl) rfl
          rw [HC.out, cond_true] at h106
          have hk4 : k = 4 := by have := gon_r HC.out; rw [← hBK4] at this; simpa using this
          obtain ⟨rfl, hjv, hcs, HEQ⟩ := H4.out hk4
          have i3 : (j : Int) < (vs.length : Int) := by omega
          unfold Oper.wp
          go_simp
          exact Stepped.at rfl hd (Below.refl _ _) (FU_mk (.val (cond (gon (gon (true) (!(true)) false) (BK4) true) (.pointer (some ⟨vb, vo + j * 4, none⟩)) undef)) rfl (by show (_ : Value) = _; first | rfl | (rw [HC.out]; first | rfl | simp) | (rw [HC.out]; simp [*])))
        · intro ac wz hb hd hs ho hp
          have hg : ac.tmps.getD 102 undef = cond (gon (true) (!(true)) false) (.bool (BK4)) undef := uval_at hp 6 102 (by kernel_rfl) rfl
          rcases Bool.eq_false_or_eq_true (gon (gon (true) (!(true)) false) (BK4) true) with hc | hc
          rotate_left
          · exact Or.inr ⟨(wanted_gon (k := 6) (d := 102) rfl (by kernel_rfl) hg).trans hc, fun d hd => FU_mk (.val _) rfl (by rw [hc]; rfl)⟩
          refine Or.inl ⟨(wanted_gon (k := 6) (d := 102) rfl (by kernel_rfl) hg).trans hc, ?_⟩
          have HC := Lib.hid hc
          clear hg hc
          have h107 : ac.tmps.getD 107 undef = cond (gon (gon (true) (!(true)) false) (BK4) true) (.pointer (some ⟨vb, vo + j * 4, none⟩)) undef := uval_at hp 11 107 (by kernel_rfl) rfl
          rw [HC.out, cond_true] at h107
          have hk4 : k = 4 := by have := gon_r HC.out; rw [← hBK4] at this; simpa using this
          obtain ⟨rfl, hjv, hcs, HEQ⟩ := H4.out hk4
          obtain ⟨x0, x1, x2, x3⟩ := hcs wz hb
          unfold Oper.wp
          go_simp
          exact Stepped.at rfl hd (Below.refl _ _) (FU_mk (.val (cond (gon (gon (true) (!(true)) false) (BK4) true) (.agg #[q0, q1, q2, q3]) undef)) rfl (by show (_ : Value) = _; first | rfl | (rw [HC.out]; first | rfl | simp) | (rw [HC.out]; simp [*])))
        · intro ac wz hb hd hs ho hp
          have hg : ac.tmps.getD 102 undef = cond (gon (true) (!(true)) false) (.bool (BK4)) undef := uval_at hp 6 102 (by kernel_rfl) rfl
          rcases Bool.eq_false_or_eq_true (gon (gon (true) (!(true)) false) (BK4) true) with hc | hc
          rotate_left
          · exact Or.inr ⟨(wanted_gon (k := 6) (d := 102) rfl (by kernel_rfl) hg).trans hc, fun d hd => FU_mk (.val _) rfl (by rw [hc]; rfl)⟩
          refine Or.inl ⟨(wanted_gon (k := 6) (d := 102) rfl (by kernel_rfl) hg).trans hc, ?_⟩
          have HC := Lib.hid hc
          clear hg hc
          have h103 : ac.tmps.getD 103 undef = cond (gon (gon (true) (!(true)) false) (BK4) true) (.agg #[.int .u8 kx, .int .i64 nx, .string sx, .slice xa ys.length xcap]) undef := uval_at hp 7 103 (by kernel_rfl) rfl
          rw [HC.out, cond_true] at h103
          have h108 : ac.tmps.getD 108 undef = cond (gon (gon (true) (!(true)) false) (BK4) true) (.agg #[q0, q1, q2, q3]) undef := uval_at hp 12 108 (by kernel_rfl) rfl
          rw [HC.out, cond_true] at h108
          have hk4 : k = 4 := by have := gon_r HC.out; rw [← hBK4] at this; simpa using this
          obtain ⟨rfl, hjv, hcs, HEQ⟩ := H4.out hk4
          unfold Oper.wp
          go_simp
          refine (HEQ _ hb).mono ?_
          rintro e2 w2 ⟨rfl, hb2⟩
          exact Stepped.at rfl hd (hb2) (FU_mk (.val (cond (gon (gon (true) (!(true)) false) (BK4) true) (.bool (true)) undef)) rfl (by show (_ : Value) = _; rw [HC.out]; first | rfl | simp))
        · intro ac wz hb hd hs ho hp
          have hg : ac.tmps.getD 102 undef = cond (gon (true) (!(true)) false) (.bool (BK4)) undef := uval_at hp 6 102 (by kernel_rfl) rfl
          rcases Bool.eq_false_or_eq_true (gon (gon (true) (!(true)) false) (BK4) true) with hc | hc
          rotate_left
          · exact Or.inr ⟨(wanted_gon (k := 6) (d := 102) rfl (by kernel_rfl) hg).trans hc, fun d hd => FU_mk (.val _) rfl (by rw [hc]; rfl)⟩
          refine Or.inl ⟨(wanted_gon (k := 6) (d := 102) rfl (by kernel_rfl) hg).trans hc, ?_⟩
          have HC := Lib.hid hc
          clear hg hc
          have h109 : ac.tmps.getD 109 undef = cond (gon (gon (true) (!(true)) false) (BK4) true) (.bool (true)) undef := uval_at hp 13 109 (by kernel_rfl) rfl
          rw [HC.out, cond_true] at h109
          unfold Oper.wp
          go_simp
          exact Stepped.at rfl hd (Below.refl _ _) (FU_mk (.val (cond (gon (gon (true) (!(true)) false) (BK4) true) (.bool (!(true))) undef)) rfl (by show (_ : Value) = _; first | rfl | (rw [HC.out]; first | rfl | simp) | (rw [HC.out]; simp [*])))
        · intro ac wz hb hd hs ho hp
          have hg : ac.tmps.getD 98 undef = cond (true) (.bool (!(true))) undef := uval_at hp 2 98 (by kernel_rfl) rfl
          rcases Bool.eq_false_or_eq_true (gon (true) (!(true)) false) with hc | hc
          rotate_left
          · exact Or.inr ⟨(wanted_gon (k := 2) (d := 98) rfl (by kernel_rfl) hg).trans hc, fun d hd => FU_mk (.val _) rfl (by rw [hc]; rfl)⟩
          refine Or.inl ⟨(wanted_gon (k := 2) (d := 98) rfl (by kernel_rfl) hg).trans hc, ?_⟩
          have HC := Lib.hid hc
          clear hg hc
          have h102 : ac.tmps.getD 102 undef = cond (gon (true) (!(true)) false) (.bool (BK4)) undef := uval_at hp 6 102 (by kernel_rfl) rfl
          rw [HC.out, cond_true] at h102
          rcases Bool.eq_false_or_eq_true (BK4) with e | e
          · rw [e] at h102
            have E := Lib.hid e
            clear e
            have h110 : ac.tmps.getD 110 undef = cond (gon (gon (true) (!(true)) false) (BK4) true) (.bool (!(true))) undef := uval_at hp 14 110 (by kernel_rfl) rfl
            rw [gon_mk HC.out E.out, cond_true] at h110
            unfold Oper.wp
            go_simp
            exact Stepped.at rfl hd (Below.refl _ _) (FU_mk (.val (cond (gon (true) (!(true)) false) (.bool ((BK4 && !(true)))) undef)) rfl (by show (_ : Value) = _; rw [HC.out, cond_true]; first | (simp only [E.out, Bool.true_and]; done) | simp [E.out]))
          · rw [e] at h102
            have E := Lib.hid e
            clear e
            unfold Oper.wp
            go_simp
            exact Stepped.at rfl hd (Below.refl _ _) (FU_mk (.val (cond (gon (true) (!(true)) false) (.bool ((BK4 && !(true)))) undef)) rfl (by show (_ : Value) = _; rw [HC.out, cond_true]; first | (simp only [E.out, Bool.false_and]; done) | simp [E.out]))
        · intro ac wz hb hd hs ho hp
          refine Or.inl ⟨rfl, ?_⟩
          have h98 : ac.tmps.getD 98 undef = .bool (!(true)) := uval_at hp 2 98 (by kernel_rfl) rfl
          rcases Bool.eq_false_or_eq_true (!(true)) with e | e
          · rw [e] at h98
            have E := Lib.hid e
            clear e
            unfold Oper.wp
            go_simp
            exact Stepped.at rfl hd (Below.refl _ _) (FU_mk (.val (.bool ((!(true) || (BK4 && !(true)))))) rfl (by show (_ : Value) = _; first | (simp only [E.out, Bool.true_or]; done) | simp [E.out]))
          · rw [e] at h98
            have E := Lib.hid e
            clear e
            have h111 : ac.tmps.getD 111 undef = cond (gon (true) (!(true)) false) (.bool ((BK4 && !(true)))) undef := uval_at hp 15 111 (by kernel_rfl) rfl
            rw [gon_mk rfl E.out, cond_true] at h111
            unfold Oper.wp
            go_simp
            exact Stepped.at rfl hd (Below.refl _ _) (FU_mk (.val (.bool ((!(true) || (BK4 && !(true)))))) rfl (by show (_ : Value) = _; first | (simp only [E.out, Bool.false_or]; done) | simp [E.out]))
      intro ac V3 hJ
      have f112 : ac.tmps.getD 112 undef = .bool ((!(true) || (BK4 && !(true)))) := FU_at (.val (.bool ((!(true) || (BK4 && !(true)))))) rfl (hJ.at_end 16 112 (by kernel_rfl))
      have e112 : ((!(true) || (BK4 && !(true)))) = false := by cases BK4 <;> rfl
      rw [e112] at f112
      clear e112
      obtain ⟨u96, f96⟩ : ∃ u, ac.tmps.getD 96 undef = u := ⟨_, rfl⟩
      obtain ⟨u97, f97⟩ : ∃ u, ac.tmps.getD 97 undef = u := ⟨_, rfl⟩
      obtain ⟨u98, f98⟩ : ∃ u, ac.tmps.getD 98 undef = u := ⟨_, rfl⟩
      obtain ⟨u99, f99⟩ : ∃ u, ac.tmps.getD 99 undef = u := ⟨_, rfl⟩
      obtain ⟨u100, f100⟩ : ∃ u, ac.tmps.getD 100 undef = u := ⟨_, rfl⟩
      obtain ⟨u101, f101⟩ : ∃ u, ac.tmps.getD 101 undef = u := ⟨_, rfl⟩
      obtain ⟨u102, f102⟩ : ∃ u, ac.tmps.getD 102 undef = u := ⟨_, rfl⟩
      obtain ⟨u103, f103⟩ : ∃ u, ac.tmps.getD 103 undef = u := ⟨_, rfl⟩
      obtain ⟨u104, f104⟩ : ∃ u, ac.tmps.getD 104 undef = u := ⟨_, rfl⟩
      obtain ⟨u105, f105⟩ : ∃ u, ac.tmps.getD 105 undef = u := ⟨_, rfl⟩
      obtain ⟨u106, f106⟩ : ∃ u, ac.tmps.getD 106 undef = u := ⟨_, rfl⟩
      obtain ⟨u107, f107⟩ : ∃ u, ac.tmps.getD 107 undef = u := ⟨_, rfl⟩
      obtain ⟨u108, f108⟩ : ∃ u, ac.tmps.getD 108 undef = u := ⟨_, rfl⟩
      obtain ⟨u109, f109⟩ : ∃ u, ac.tmps.getD 109 undef = u := ⟨_, rfl⟩
      obtain ⟨u110, f110⟩ : ∃ u, ac.tmps.getD 110 undef = u := ⟨_, rfl⟩
      obtain ⟨u111, f111⟩ : ∃ u, ac.tmps.getD 111 undef = u := ⟨_, rfl⟩
      have b := hJ.below
      obtain ⟨TT, DD⟩ := ac
      obtain rfl : DD = [] := hJ.defers
      have hE := slots_merge [false, false, false, false, false, false, false, false, false, false, false, false, false, false, false, false, false, false, false, false, false, false, false, false, false, false, false, false, false, false, false, false, false, false, false, false, false, false, false, false, false, false, false, false, false, false, false, false, false, false, false, false, false, false, false, false, false, false, false, false, false, false, false, false, false, false, false, false, false, false, false, false, false, false, false, false, false, false, false, false, false, false, false, false, false, false, false, false, false, false, false, false, false, false, false, false, true, true, true, true, true, true, true, true, true, true, true, true, true, true, true, true, true, false, false, false, false, false, false, false, false, false, false, false, false, false, false, false, false, false, false, false, false, false, false] 135 hJ.tmps rfl (by kernel_rfl) hJ.outer
      simp only [mergeFrom, Nat.zero_add, Nat.reduceAdd, f96, f97, f98, f99, f100, f101, f102, f103, f104, f105, f106, f107, f108, f109, f110, f111, f112] at hE
      clear hJ f96 f97 f98 f99 f100 f101 f102 f103 f104 f105 f106 f107 f108 f109 f110 f111 f112 
      subst hE
      clear H4 hBK4
      have HN4 := Lib.hid (show Nums wx.heap.size V3 _ _ from HNr3.out.grow b)
      clear HNr3
      have q := Lib.hid (R1.out.grow b)
      clear R1
      have R1 := q
      clear q
      have q := Lib.hid (R3.out.grow b)
      clear R3
      have R3 := q
      clear q
      have q := Lib.hid (R9.out.grow b)
      clear R9
      have R9 := q
      clear q
      have q := Lib.hid ((HX.out.below b).mono b.size)
      clear HX
      have HX := q
      clear q
      have q := Lib.hid (HBw.out.trans (b.mono HBw.out.size))
      clear b HBw
      have HBw := q
      clear q
      have y1 := cells_at R9.out 1 _ rfl
      have y0 := cells_at R9.out 0 _ rfl
      have y2 := cells_at R9.out 2 _ rfl
      have y3 := cells_at R9.out 3 _ rfl
      have HBA := Lib.hid (show Below V3.heap.size V3 (V3.alloc (.cells #[.int .i64 nx] 3)) from (Below.refl _ _).alloc (Nat.le_refl _) _)
      go_wp2_with (at_builtin; refine wpList_append_own _ rfl _ _ 22 rfl wx.heap.size 3 i0 _ 1 8 Tryz.underlying22 hi hz0 hz1 hz2 rfl (by decide) _ _ _ rfl (HN4.out.grow HBA.out) ⟨V3.heap.size, 0, none⟩ 1 1 [.int .i64 nx] rfl rfl ?c1 ?c2 ?c3 ?c4 ?c5 ?_)
      case c1 =>
        intro jj u hu
        rcases jj with _ | jj
        · cases hu
          exact cells_at (World.alloc_heap_new V3 (.cells #[.int .i64 nx] 3)) 0 _ rfl
        · simp at hu
      case c2 => simp [Value.oneCell']
      case c3 => simp only [List.length_map, List.length_take]; unfold maxLen; omega
      case c4 => simp only [List.length_map, List.length_take]; omega
      case c5 => have := HBw.out.size; have := HBA.out.size; omega
      intro v' w3 hown hg _
      have HO := Lib.hid hown
      have HBn := Lib.hid ((HBw.out.trans (HBA.out.mono HBw.out.size)).grown hg (by have := HBw.out.size; have := HBA.out.size; omega) (fun q e => (HN4.out.lt q e).1))
      clear hown hg y0 y1 y2 y3
      go_wp2
      go_roundw
      case rel => exact ⟨j + 1, by omega, by go_num, by unfold Nums; rw [HTK.out]; simpa [Tm.num, Nat.min_eq_left (Nat.le_of_lt hjx)] using HO.out, HBn.out⟩
      case measure => simp [intOf]; omega
    · obtain rfl : j = us.length := by omega
      have HNe := Lib.hid (show Nums wx.heap.size wr _ (xs.map Tm.num) by have := HNr.out; rwa [List.take_of_length_le (by omega)] at this)
      have HI := Lib.hid HNe.out.intV
      clear HNr
      by_cases hk5 : k = 5
      · obtain ⟨z, hz, hv5⟩ := HX5.out hk5
        unfold numT at hv5
        injection hv5 with hv1 hv2 hv3 hv4
        subst hv1 hv2 hv3 hv4
        have HC := Lib.hid (calc_any s HS.out (xs.map Tm.num) _ wr HI.out)
        rw [hz] at HC
        simp only [optPair] at HC
        have hzo := outB_false.1 (calcI_fits hz)
        have HZ := Lib.hid (show I64 nv from i64_mk (by omega))
        clear hz hzo
        go_wp2_with (go_at_call 10; refine HC.out.mono ?_)
        rintro e V5 ⟨rfl, b⟩
        clear x0 x1 x2 x3 HI HC HNe
        have q := Lib.hid (R1.out.grow b)
        clear R1
        have R1 := q
        clear q
        have q := Lib.hid (R3.out.grow b)
        clear R3
        have R3 := q
        clear q
        have q := Lib.hid ((HVr.out.below b).mono b.size)
        clear HVr
        have HVr := q
        clear q
        have q := Lib.hid (HBw.out.trans (b.mono HBw.out.size))
        clear b HBw
        have HBw := q
        clear q
        go_wp2_with fail
        have EQ3 := Lib.hid (show Evr V5 21 #[.agg #[.int .u8 1, .int .i64 nv, .string ⟨#[]⟩, .slice va ([] : List Tm).length vcap], .agg #[.int .u8 1, .int .i64 nv, .string ⟨#[]⟩, .slice none 0 0]] (.bool true) from
          cmp_self (good_of HVr.out) ▸ equal_evr HVr.out (isTm_mk (by omega) HZ.out (by unfold maxLen; simp [ByteArray.size]) (by simp) (fun h => absurd rfl h)))
        refine wp_region_grow_or (by kernel_rfl) (FU (bpDescs22 nv va vcap n3 )) (FU_grow _) (by kernel_rfl) (steps_or ?_) ?_
        · refine ⟨?_, ?_, ?_, ?_, ?_, ?_, ?_, ?_, trivial⟩
          · intro ac wz hb hd hs ho hp
            refine Or.inl ⟨rfl, ?_⟩
            have h12 : ac.tmps.getD 12 undef = .bool (true) := (ho 12 (by kernel_rfl)).trans rfl
            unfold Oper.wp
            go_simp
            exact Stepped.at rfl hd (Below.refl _ _) (FU_mk (.val (.bool (true))) rfl (by show (_ : Value) = _; first | rfl | (first | rfl | simp) | (simp [*])))
          · intro ac wz hb hd hs ho hp
            refine Or.inl ⟨rfl, ?_⟩
            have h128 : ac.tmps.getD 128 undef = .bool (true) := uval_at hp 0 128 (by kernel_rfl) rfl
            unfold Oper.wp
            go_simp
            exact Stepped.at rfl hd (Below.refl _ _) (FU_mk (.val (.bool (true))) rfl (by show (_ : Value) = _; first | rfl | (first | rfl | simp) | (simp [*])))
          · intro ac wz hb hd hs ho hp
            have hg : ac.tmps.getD 129 undef = cond (true) (.bool (true)) undef := uval_at hp 1 129 (by kernel_rfl) rfl
            rcases Bool.eq_false_or_eq_true (gon (true) (true) true) with hc | hc
            rotate_left
            · exact Or.inr ⟨(wanted_gon (k := 1) (d := 129) rfl (by kernel_rfl) hg).trans hc, fun d hd => FU_mk (.val _) rfl (by rw [hc]; rfl)⟩
            refine Or.inl ⟨(wanted_gon (k := 1) (d := 129) rfl (by kernel_rfl) hg).trans hc, ?_⟩
            have HC := Lib.hid hc
            clear hg hc
            have h3 : ac.tmps.getD 3 undef = .pointer (some ⟨n3, 0, none⟩) := (ho 3 (by kernel_rfl)).trans rfl
            have hx := R3.out.grow hb
            have x0 := cells_at hx 0 _ rfl
            have x1 := cells_at hx 1 _ rfl
            have x2 := cells_at hx 2 _ rfl
            have x3 := cells_at hx 3 _ rfl
            unfold Oper.wp
            go_simp
            exact Stepped.at rfl hd (Below.refl _ _) (FU_mk (.val (cond (gon (true) (true) true) (.agg #[.int .u8 1, .int .i64 nv, .string ⟨#[]⟩, .slice va ([] : List Tm).length vcap]) undef)) rfl (by show (_ : Value) = _; first | rfl | (rw [HC.out]; first | rfl | simp) | (rw [HC.out]; simp [*])))
          · intro ac wz hb hd hs ho hp
            have hg : ac.tmps.getD 129 undef = cond (true) (.bool (true)) undef := uval_at hp 1 129 (by kernel_rfl) rfl
            rcases Bool.eq_false_or_eq_true (gon (true) (true) true) with hc | hc
            rotate_left
            · exact Or.inr ⟨(wanted_gon (k := 1) (d := 129) rfl (by kernel_rfl) hg).trans hc, fun d hd => FU_mk (.val _) rfl (by rw [hc]; rfl)⟩
            refine Or.inl ⟨(wanted_gon (k := 1) (d := 129) rfl (by kernel_rfl) hg).trans hc, ?_⟩
            have HC := Lib.hid hc
            clear hg hc
            have h11 : ac.tmps.getD 11 undef = .int .i64 (nv) := (ho 11 (by kernel_rfl)).trans rfl
            unfold Oper.wp
            go_simp
            exact Stepped.at rfl hd (Below.refl _ _) (FU_mk (.val (cond (gon (true) (true) true) (.int .i64 (nv)) undef)) rfl (by show (_ : Value) = _; first | rfl | (rw [HC.out]; first | rfl | simp) | (rw [HC.out]; simp [*])))
          · intro ac wz hb hd hs ho hp
            have hg : ac.tmps.getD 129 undef = cond (true) (.bool (true)) undef := uval_at hp 1 129 (by kernel_rfl) rfl
            rcases Bool.eq_false_or_eq_true (gon (true) (true) true) with hc | hc
            rotate_left
            · exact Or.inr ⟨(wanted_gon (k := 1) (d := 129) rfl (by kernel_rfl) hg).trans hc, fun d hd => FU_mk (.val _) rfl (by rw [hc]; rfl)⟩
            refine Or.inl ⟨(wanted_gon (k := 1) (d := 129) rfl (by kernel_rfl) hg).trans hc, ?_⟩
            have HC := Lib.hid hc
            clear hg hc
            have h131 : ac.tmps.getD 131 undef = cond (gon (true) (true) true) (.int .i64 (nv)) undef := uval_at hp 3 131 (by kernel_rfl) rfl
            rw [HC.out, cond_true] at h131
            unfold Oper.wp
            go_simp
            refine (num_x nv wz).mono ?_
            rintro e2 w2 ⟨rfl, hb2⟩
            exact Stepped.at rfl hd (hb2) (FU_mk (.val (cond (gon (true) (true) true) (.agg #[.int .u8 1, .int .i64 nv, .string ⟨#[]⟩, .slice none 0 0]) undef)) rfl (by show (_ : Value) = _; rw [HC.out]; first | rfl | simp))
          · intro ac wz hb hd hs ho hp
            have hg : ac.tmps.getD 129 undef = cond (true) (.bool (true)) undef := uval_at hp 1 129 (by kernel_rfl) rfl
            rcases Bool.eq_false_or_eq_true (gon (true) (true) true) with hc | hc
            rotate_left
            · exact Or.inr ⟨(wanted_gon (k := 1) (d := 129) rfl (by kernel_rfl) hg).trans hc, fun d hd => FU_mk (.val _) rfl (by rw [hc]; rfl)⟩
            refine Or.inl ⟨(wanted_gon (k := 1) (d := 129) rfl (by kernel_rfl) hg).trans hc, ?_⟩
            have HC := Lib.hid hc
            clear hg hc
            have h130 : ac.tmps.getD 130 undef = cond (gon (true) (true) true) (.agg #[.int .u8 1, .int .i64 nv, .string ⟨#[]⟩, .slice va ([] : List Tm).length vcap]) undef := uval_at hp 2 130 (by kernel_rfl) rfl
            rw [HC.out, cond_true] at h130
            have h132 : ac.tmps.getD 132 undef = cond (gon (true) (true) true) (.agg #[.int .u8 1, .int .i64 nv, .string ⟨#[]⟩, .slice none 0 0]) undef := uval_at hp 4 132 (by kernel_rfl) rfl
            rw [HC.out, cond_true] at h132
            unfold Oper.wp
            go_simp
            refine (EQ3.out _ hb).mono ?_
            rintro e2 w2 ⟨rfl, hb2⟩
            exact Stepped.at rfl hd (hb2) (FU_mk (.val (cond (gon (true) (true) true) (.bool (true)) undef)) rfl (by show (_ : Value) = _; rw [HC.out]; first | rfl | simp))
          · intro ac wz hb hd hs ho hp
            refine Or.inl ⟨rfl, ?_⟩
            have h129 : ac.tmps.getD 129 undef = .bool (true) := uval_at hp 1 129 (by kernel_rfl) rfl
            rcases Bool.eq_false_or_eq_true (true) with e | e
            · rw [e] at h129
              have E := Lib.hid e
              clear e
              have h133 : ac.tmps.getD 133 undef = cond (gon (true) (true) true) (.bool (true)) undef := uval_at hp 5 133 (by kernel_rfl) rfl
              rw [gon_mk rfl E.out, cond_true] at h133
              unfold Oper.wp
              go_simp
              exact Stepped.at rfl hd (Below.refl _ _) (FU_mk (.val (.bool ((true && true)))) rfl (by show (_ : Value) = _; first | (simp only [Bool.true_and]; done) | simp [E.out]))
            · rw [e] at h129
              have E := Lib.hid e
              clear e
              unfold Oper.wp
              go_simp
              exact Stepped.at rfl hd (Below.refl _ _) (FU_mk (.val (.bool ((true && true)))) rfl (by show (_ : Value) = _; first | (simp only [E.out, Bool.false_and]; done) | simp [E.out]))
          · intro ac wz hb hd hs ho hp
            refine Or.inl ⟨rfl, ?_⟩
            have h134 : ac.tmps.getD 134 undef = .bool ((true && true)) := uval_at hp 6 134 (by kernel_rfl) rfl
            unfold Oper.wp
            go_simp
            exact Stepped.at rfl hd (Below.refl _ _) (FU_mk (.val (.bool ((true && true)))) rfl (by show (_ : Value) = _; first | rfl | (first | rfl | simp) | (simp [*])))
        intro ac V6 hJ
        have f2 : ac.tmps.getD 2 undef = .bool ((true && true)) := FU_at (.val (.bool ((true && true)))) rfl (hJ.at_end 7 2 (by kernel_rfl))
        have e2 : ((true && true)) = true := rfl
        rw [e2] at f2
        clear e2
        obtain ⟨u128, f128⟩ : ∃ u, ac.tmps.getD 128 undef = u := ⟨_, rfl⟩
        obtain ⟨u129, f129⟩ : ∃ u, ac.tmps.getD 129 undef = u := ⟨_, rfl⟩
        obtain ⟨u130, f130⟩ : ∃ u, ac.tmps.getD 130 undef = u := ⟨_, rfl⟩
        obtain ⟨u131, f131⟩ : ∃ u, ac.tmps.getD 131 undef = u := ⟨_, rfl⟩
        obtain ⟨u132, f132⟩ : ∃ u, ac.tmps.getD 132 undef = u := ⟨_, rfl⟩
        obtain ⟨u133, f133⟩ : ∃ u, ac.tmps.getD 133 undef = u := ⟨_, rfl⟩
        obtain ⟨u134, f134⟩ : ∃ u, ac.tmps.getD 134 undef = u := ⟨_, rfl⟩
        have b := hJ.below
        obtain ⟨TT, DD⟩ := ac
        obtain rfl : DD = [] := hJ.defers
        have hE := slots_merge [false, false, true, false, false, false, false, false, false, false, false, false, false, false, false, false, false, false, false, false, false, false, false, false, false, false, false, false, false, false, false, false, false, false, false, false, false, false, false, false, false, false, false, false, false, false, false, false, false, false, false, false, false, false, false, false, false, false, false, false, false, false, false, false, false, false, false, false, false, false, false, false, false, false, false, false, false, false, false, false, false, false, false, false, false, false, false, false, false, false, false, false, false, false, false, false, false, false, false, false, false, false, false, false, false, false, false, false, false, false, false, false, false, false, false, false, false, false, false, false, false, false, false, false, false, false, false, false, true, true, true, true, true, true, true] 135 hJ.tmps rfl (by kernel_rfl) hJ.outer
        simp only [mergeFrom, Nat.zero_add, Nat.reduceAdd, f128, f129, f130, f131, f132, f133, f134, f2] at hE
        clear hJ f128 f129 f130 f131 f132 f133 f134 f2 
        subst hE
        have q := Lib.hid (HBw.out.trans (b.mono HBw.out.size))
        clear b HBw
        have HBw := q
        clear q
        have BWf := Lib.hid (BW.out.trans (HBw.out.mono BW.out.size))
        go_wp2_with fail
        go_ret
        exact ⟨rfl, BWf.out⟩
      · have hk5' : (k == 5) = false := by simpa using hk5
        clear HI HNe
        go_wp2
        go_ret
        exact ⟨rfl, HBT.out⟩
end Go.Proofs.YteaiocdopjekhaaGreatDoor
