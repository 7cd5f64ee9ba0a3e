/- The law of Calc: its walk. -/
import Derived.Test.YteaiocdopjekhaaGreatDoorMr
import Derived.Test.YteaiocdopjekhaaGreatDoorMl
namespace Go.Proofs.YteaiocdopjekhaaGreatDoor
open Go.RowKit

theorem optPair_two (o : Option Int) : optPair o = .tuple #[.int .i64 (o.getD 0), .bool o.isSome] := by cases o <;> rfl

set_option maxRecDepth 100000 in
set_option maxHeartbeats 4000000 in
theorem calcs_any (s : ByteArray) (hs : s.size ≤ maxLen) (l : List Int) (v : Value) (w : World) (hv : IntA w v l) (HAW0 : ∀ w, Calls Tryz.prog 8 #[] w fun e w' => e = .returned (.bool true) ∧ Below w.heap.size w w') :
    Calls Tryz.prog 3 #[.string s, v] w fun e w' => e = .returned (.bool true) ∧ Below w.heap.size w w' := by
  have HAW := Lib.hid HAW0
  have HV := Lib.hid hv
  have HS := Lib.hid hs
  obtain ⟨a, cap, rfl, hm, _⟩ := hv.intV
  unfold maxLen at hm
  clear HAW0 hv hs
  by_cases hl : l.length ≤ 4
  · have hl1 : ¬ (4 : Int) < (l.length : Int) := by omega
    obtain ⟨q, x, hqx⟩ : ∃ q x, optPair (calcI s.toList l) = .tuple #[.int .i64 q, .bool x] := ⟨_, _, optPair_two _⟩
    have HL := Lib.hid (show Calls Tryz.prog 9 #[.slice a l.length cap] w fun e w' => ∃ g cp, e = .returned (.slice (some ⟨g, 0, none⟩) l.length cp) ∧ Lent w' w.heap.size l (.slice (some ⟨g, 0, none⟩) l.length cp) ∧ Below w.heap.size w w' from
      (lent_any l hl _ w HV.out).mono fun e w' ⟨x, he, hx, hb⟩ => by
        have hx0 := hx
        obtain ⟨g, cp, cur, rfl, _⟩ := hx
        exact ⟨g, cp, he, hx0, hb⟩)
    have HC := Lib.hid (fun v w (h : IntV w v l) => calc_any s HS.out l v w h)
    have HR := Lib.hid (fun v w (h : IntV w v l) => rcalc_any s HS.out l v w h)
    rw [hqx] at HC
    unfold RPost at HR
    rw [hqx] at HR
    have HVV := Lib.hid HV.out.intV
    clear HV hqx
    go_enter Tryz.func3, Tryz.ntmps3
    go_wp2_with (go_at_call 9; refine HL.out.mono ?_)
    rintro e w1 g cp rfl hL hB1
    have HL1 := Lib.hid hL
    have HB1 := Lib.hid hB1
    clear hL hB1 HL
    go_wp2_with (go_at_call 10; refine (HC.out _ _ HL1.out.intV).mono ?_)
    rintro e w2 ⟨rfl, hB2⟩
    have HL2 := Lib.hid (HL1.out.grow hB2)
    have HB2 := Lib.hid (HB1.out.trans (hB2.mono HB1.out.size))
    clear hB2 HL1 HB1 HC
    go_wp2_with (go_at_call 11; refine (HR.out _ _ (HVV.out.grow HB2.out)).mono ?_)
    rintro e w3 ⟨rfl, hB3⟩
    have HL3 := Lib.hid (HL2.out.grow hB3)
    have HB3 := Lib.hid (HB2.out.trans (hB3.mono HB2.out.size))
    have HV3 := Lib.hid (HVV.out.grow HB3.out)
    clear hB3 HL2 HB2 HR HVV
    go_wp2_with (go_at_call 12; refine (kept_any l hl _ _ w3 _ HL3.out HV3.out).mono ?_)
    rintro e w4 ⟨rfl, hB4⟩
    have HB4 := Lib.hid (HB3.out.trans (hB4.mono HB3.out.size))
    clear hB4 HL3 HB3 HV3
    go_wp2_with (go_at_call 8; refine (HAW.out w4).mono ?_)
    rintro e w5 ⟨rfl, hB5⟩
    have HB5 := Lib.hid (HB4.out.trans (hB5.mono HB4.out.size))
    clear hB5 HB4
    go_wp2
    go_ret
    exact ⟨rfl, HB5.out⟩
  · have hl1 : (4 : Int) < (l.length : Int) := by omega
    clear HV
    go_enter Tryz.func3, Tryz.ntmps3
    go_wp2_with (go_at_call 8; refine (HAW.out w).mono ?_)
    rintro e w5 ⟨rfl, hB5⟩
    have HB5 := Lib.hid hB5
    clear hB5
    go_wp2
    go_ret
    exact ⟨rfl, HB5.out⟩
end Go.Proofs.YteaiocdopjekhaaGreatDoor
