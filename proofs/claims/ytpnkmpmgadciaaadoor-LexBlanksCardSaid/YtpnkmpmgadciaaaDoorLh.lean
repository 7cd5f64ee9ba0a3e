/- The law of blanks (LexBlanks): its walk. -/
import Derived.Test.YtpnkmpmgadciaaaDoorLe
import Derived.Test.YtpnkmpmgadciaaaDoorLg
import Derived.Laws.AppendOwn
namespace Go.Proofs.YtpnkmpmgadciaaaDoor
open Go.RowKit

/-- A slice of integers, held below B. -/
def IsInts (B : Nat) (w : World) (v : Value) (l : List Int) : Prop := (∃ p cap, v = .slice p l.length cap ∧ l.length ≤ maxLen ∧ (l ≠ [] → ∃ b off, p = some ⟨b, off, none⟩ ∧ b < B ∧ ∀ (i : Nat) (x : Int), l[i]? = some x → w.cell? ⟨b, off + i, none⟩ = some (.int .i64 x))) ∧
  ∀ x ∈ l, -9223372036854775808 ≤ x ∧ x ≤ 9223372036854775807

theorem ret_i64 {a b : Int} (h : a = b) : Ending.returned (.int .i64 a) = .returned (.int .i64 b) := by rw [h]
set_option maxHeartbeats 1000000 in
theorem pick_six (n : Int) (w : World) (_h1 : -9223372036854775808 ≤ n) (_h2 : n ≤ 9223372036854775807) :
    Calls Tryd.prog 14 #[.int .i64 n, .int .i64 6] w fun e w' => ∃ g : Nat, g < 6 ∧ e = .returned (.int .i64 g) ∧ w = w' := by
  obtain ⟨m, hm⟩ : ∃ m, n.tmod 6 = m := ⟨_, rfl⟩
  have hl : -6 < m := by rw [← hm]; have := Int.lt_tmod_of_pos n (show (0:Int) < 6 by omega); omega
  have hu : m < 6 := by rw [← hm]; have := Int.tmod_lt_of_pos n (show (0:Int) < 6 by omega); omega
  by_cases h0 : m < 0
  · go_enter Tryd.func14, Tryd.ntmps14
    go_wp2
    go_ret
    exact ⟨(m + 6).toNat, by omega, ret_i64 (show m + 6 = ((m + 6).toNat : Int) by omega), rfl⟩
  · have h3 : 0 ≤ m := by omega
    go_enter Tryd.func14, Tryd.ntmps14
    go_wp2
    go_ret
    exact ⟨m.toNat, by omega, ret_i64 (show m = ((m).toNat : Int) by omega), rfl⟩

theorem gapT_take (L : List UInt8) : ∀ (l : List Tk) (gs : List Nat) (fr k : Nat), LieFrom L fr l → fr ≤ L.length → (∀ g ∈ gs, g < 6) → (gapT (l.take k) gs).length ≤ (L.length - fr) + 9 * k
  | [], gs, _, k, _, _, _ => by cases gs <;> simp [gapT]
  | _ :: _, gs, _, 0, _, _, _ => by cases gs <;> simp [gapT]
  | _ :: _, [], _, k + 1, _, _, _ => by simp [gapT]
  | x :: r, g :: gs, fr, k + 1, h, hf, hg => by
    obtain ⟨h1, h2, _, _, h5⟩ := h
    have ih := gapT_take L r gs _ k h5 h2 (fun y hy => hg y (List.mem_cons_of_mem _ hy))
    have hl := fill_le (hg g (by simp))
    show (fillN g ++ (x.t.data.toList ++ gapT (r.take k) gs)).length ≤ _
    simp only [List.length_append]
    omega
theorem text_le (L : List UInt8) : ∀ (l : List Tk) (fr k : Nat) (x : Tk), LieFrom L fr l → l[k]? = some x → x.t.data.toList.length ≤ L.length
  | [], _, _, _, _, h => by simp at h
  | y :: r, fr, 0, x, h, hx => by
    obtain rfl : y = x := by simpa using hx
    obtain ⟨h1, h2, _⟩ := h
    omega
  | y :: r, fr, k + 1, x, h, hx => by
    obtain ⟨_, _, _, _, h5⟩ := h
    exact text_le L r _ k x h5 (by simpa using hx)
def fillB (g : Nat) : ByteArray := ⟨(fillN g).toArray⟩
theorem fillB_le {g : Nat} (hg : g < 6) : (fillB g).size ≤ 9 := by
  have h := fill_le hg
  have : (fillB g).size = (fillN g).length := by unfold fillB; simp [ByteArray.size]
  omega
theorem fill_at {W : World} {F : Nat} (h : W.heap[F]? = some (.cells #[.string ⟨#[32]⟩, .string ⟨#[10]⟩, .string ⟨#[9, 32]⟩, .string ⟨#[37, 10]⟩, .string ⟨#[32, 37, 32, 97, 46, 32, 35, 120, 10]⟩, .string ⟨#[13, 10]⟩] 9 (0, 0))) {g : Nat} (hg : g < 6) : W.cell? ⟨F, g, none⟩ = some (.string (fillB g)) := by
  refine cells_at h g _ ?_
  rcases g with _ | _ | _ | _ | _ | _ | g
  · rfl
  · rfl
  · rfl
  · rfl
  · rfl
  · rfl
  · omega

def endB : ByteArray := ⟨#[32, 37, 32, 116, 104, 101, 32, 101, 110, 100]⟩
theorem infoI : (Tryd.prog.info? 3).map (fun i => (i.zero, i.size, i.bytes)) = some (some (.int .i64 0), 1, 8) := by kernel_rfl

set_option maxRecDepth 100000 in
set_option maxHeartbeats 4000000 in
theorem blanks_long (s : ByteArray) (v : Value) (p : Option Addr) (n cap : Nat) (hv : v = .slice p n cap) (w : World) (hE : ErrOk w) (hl : 32768 < s.size) (hm : s.size ≤ maxLen) :
    Calls Tryd.prog 5 #[.string s, v] w fun e w' => e = .returned (.bool true) ∧ Below w.heap.size w w' := by
  subst hv
  have hm' := hm; clear hm; unfold maxLen at hm'
  have HAW := Lib.hid (lexAwake_any w hE)
  have HL := Lib.hid (fun W => lex_long s W hl)
  clear hE
  go_enter Tryd.func5, Tryd.ntmps5
  go_wp2_with (go_at_call 7; refine HAW.out.mono ?_; clear HAW; rintro e w1 ⟨rfl, hb1⟩)
  refine (HL.out w1).mono ?_
  rintro e w2 ⟨rfl, hb2⟩
  have hB := hb1.trans (hb2.mono hb1.size)
  clear hb1 hb2
  go_wp2
  go_ret
  exact ⟨rfl, hB⟩

set_option maxRecDepth 100000 in
set_option maxHeartbeats 4000000 in
theorem blanks_err (s : ByteArray) (v : Value) (p : Option Addr) (n cap : Nat) (hv : v = .slice p n cap) (w : World) (hE : ErrOk w) (hl : s.size ≤ 32768) (x : Tk) (hx : lexErr s = some x) :
    Calls Tryd.prog 5 #[.string s, v] w fun e w' => e = .returned (.bool true) ∧ Below w.heap.size w w' := by
  subst hv
  have HAW := Lib.hid (lexAwake_any w hE)
  have HE := Lib.hid hE
  have HL := Lib.hid (fun W h => lex_err s W hl h x hx)
  obtain ⟨e1, e2⟩ := lexErr_ne hx
  clear hE hx
  go_enter Tryd.func5, Tryd.ntmps5
  go_wp2_with (go_at_call 7; refine HAW.out.mono ?_; clear HAW; rintro e w1 ⟨rfl, hb1⟩)
  refine (HL.out w1 (HE.out.below hb1)).mono ?_
  rintro e w2 ⟨rfl, hb2⟩
  have hB := hb1.trans (hb2.mono hb1.size)
  clear hb1 hb2
  go_wp2
  go_ret
  exact ⟨rfl, hB⟩

set_option maxRecDepth 100000 in
set_option maxHeartbeats 4000000 in
theorem blanks_many (s : ByteArray) (v : Value) (p : Option Addr) (n cap : Nat) (hv : v = .slice p n cap) (w : World) (hE : ErrOk w) (hl : s.size ≤ 32768) (hx : lexErr s = none) (hm : 300 < (lexAll s).length ∨ 4000 < s.size) :
    Calls Tryd.prog 5 #[.string s, v] w fun e w' => e = .returned (.bool true) ∧ Below w.heap.size w w' := by
  subst hv
  have HAW := Lib.hid (lexAwake_any w hE)
  have HE := Lib.hid hE
  have HL := Lib.hid (fun W h => lex_okc s W hl h hx)
  have hn := lexAll_le s
  obtain ⟨la, hla⟩ : ∃ la, lexAll s = la := ⟨_, rfl⟩
  rw [hla] at HL hm hn
  clear hE hx hla
  by_cases h3 : 300 < la.length <;> by_cases h4 : 4000 < s.size
  all_goals first
    | (exfalso; omega)
    | (clear hm
       go_enter Tryd.func5, Tryd.ntmps5
       go_wp2_with (go_at_call 7; refine HAW.out.mono ?_; clear HAW; rintro e w1 ⟨rfl, hb1⟩)
       refine (HL.out w1 (HE.out.below hb1)).mono ?_
       rintro e w2 ⟨pa, ca, rfl, _, hb2, _⟩
       have hB := hb1.trans (hb2.mono hb1.size)
       clear hb1 hb2
       go_wp2
       go_ret
       exact ⟨rfl, hB⟩)
set_option maxRecDepth 100000 in
set_option maxHeartbeats 8000000 in
theorem blanks_main (s : ByteArray) (v : Value) (ns : List Int) (w : World) (hV : IsInts w.heap.size w v ns) (hE : ErrOk w) (hs : s.size ≤ 4000) (hx : lexErr s = none) (hm : (lexAll s).length ≤ 300) :
    Calls Tryd.prog 5 #[.string s, v] w fun e w' => e = .returned (.bool true) ∧ Below w.heap.size w w' := by
  have HAW := Lib.hid (lexAwake_any w hE)
  have HE := Lib.hid hE
  have HL := Lib.hid (fun W h => lex_okc s W (by omega) h hx)
  have hlie := lexAll_lie hx
  have hgood : ∀ x ∈ lexAll s, GoodT x := by
    intro x hxm
    have h1 := lexErr_all.1 hx
    rw [List.all_eq_true] at h1
    have h2 := h1 x hxm
    rw [lexAll_eq] at hxm
    exact lexL_good _ _ _ x hxm (by simpa using h2)
  obtain ⟨la, hla⟩ : ∃ la, lexAll s = la := ⟨_, rfl⟩
  rw [hla] at HL hm hlie hgood
  obtain ⟨⟨pv, cv, rfl, hnm, hcv⟩, hb64⟩ := hV
  have HLIE := Lib.hid hlie
  have HGOOD := Lib.hid hgood
  have HCV := Lib.hid hcv
  have H64 := Lib.hid hb64
  unfold maxLen at hnm
  clear hE hx hla hlie hgood hcv hb64
  go_enter Tryd.func5, Tryd.ntmps5
  go_wp2_with (go_at_call 7; refine HAW.out.mono ?_; clear HAW; rintro e w1 ⟨rfl, hb1⟩; have HB1 := Lib.hid hb1; clear hb1)
  refine (HL.out w1 (HE.out.below HB1.out)).mono ?_
  rintro e w2 ⟨pa, ca, rfl, hta, hb2, _⟩
  have HB2 := Lib.hid (HB1.out.trans (hb2.mono HB1.out.size))
  have HTA := Lib.hid hta
  clear hb2 hta HL
  go_wp2_with fail
  obtain ⟨F, hF⟩ : ∃ F, w2.heap.size = F := ⟨_, rfl⟩
  obtain ⟨W3, hW3⟩ : ∃ W3, w2.alloc (.cells #[.string ⟨#[32]⟩, .string ⟨#[10]⟩, .string ⟨#[9, 32]⟩, .string ⟨#[37, 10]⟩, .string ⟨#[32, 37, 32, 97, 46, 32, 35, 120, 10]⟩, .string ⟨#[13, 10]⟩] 9) = W3 := ⟨_, rfl⟩
  have hB3 : Below w2.heap.size w2 W3 := by rw [← hW3]; exact (Below.refl _ _).alloc (Nat.le_refl _) _
  have hfl : W3.heap[F]? = some (.cells #[.string ⟨#[32]⟩, .string ⟨#[10]⟩, .string ⟨#[9, 32]⟩, .string ⟨#[37, 10]⟩, .string ⟨#[32, 37, 32, 97, 46, 32, 35, 120, 10]⟩, .string ⟨#[13, 10]⟩] 9 (0, 0)) := by rw [← hW3, ← hF]; exact World.alloc_heap_new _ _
  have hz3 : W3.heap.size = F + 1 := by rw [← hW3, ← hF]; simp
  rw [hW3, hF]
  rw [hF] at hB3
  have HTA3 := Lib.hid ((HTA.out.below (by rw [hF]; exact hB3)).mono (show w2.heap.size ≤ F + 1 by omega))
  have HBW3 := Lib.hid (HB2.out.trans (hB3.mono (by have := HB2.out.size; omega)))
  have HFL := Lib.hid hfl
  have hwF : w.heap.size ≤ F := by have := HB2.out.size; omega
  clear hW3 hF hB3 hfl
  go_loopw [9, 10, 11, 12] (fun sv ov iv _ wr => ∃ (k : Nat) (gs : List Nat) (S : ByteArray), (k ≤ la.length ∧ gs.length = k ∧ ∀ g ∈ gs, g < 6) ∧ iv = .int .i64 k ∧ sv = .string S ∧ S.data.toList = gapT (la.take k) gs ∧
      wr.ownsRow (F + 1) 3 1 ov k ((gapA 0 (la.take k) gs).map fun x => Value.int .i64 x.a) ∧ Below (F + 1) W3 wr) (fun _ _ iv _ _ => la.length - (intOf iv).toNat)
  case atStart => exact ⟨0, [], ⟨#[]⟩, ⟨Nat.zero_le _, rfl, by simp⟩, rfl, rfl, by simp [gapT], ⟨by simp [gapA], .inl ⟨rfl, rfl⟩⟩, Below.refl _ _⟩
  case round =>
    obtain ⟨k, gs, S, ⟨hk, hgl, hg6⟩, rfl, rfl, hS, hrow, hbr⟩ := hrel
    by_cases hlt : k < la.length
    · obtain ⟨x, hxk⟩ : ∃ x, la[k]? = some x := ⟨la[k], List.getElem?_eq_getElem hlt⟩
      obtain ⟨i0, hi, hz0, hz1, hz2⟩ := info_parts infoI
      have hbz := hbr.size
      have hsl : s.data.toList.length = s.size := rfl
      have hgt := gapT_take s.data.toList la gs 0 k HLIE.out (Nat.zero_le _) hg6
      have hSz : S.size ≤ 4000 + 9 * 300 := by
        have : S.data.toList.length = S.size := rfl
        rw [hS] at this; omega
      have hxz : x.t.size ≤ 4000 := by
        have := text_le s.data.toList la 0 k x HLIE.out hxk
        have e : x.t.data.toList.length = x.t.size := rfl
        omega
      obtain ⟨p2, c2, hv2, hr2⟩ := HTA3.out
      obtain ⟨bt, ot, hp2', hbl2, hc2⟩ := hr2 (by intro e; rw [e] at hlt; simp at hlt)
      cases hv2; subst hp2'
      have gt := (hbr.cell (p := ⟨bt, ot + k * 3 + 1, none⟩) hbl2).trans (hc2 k x hxk).2.1
      obtain ⟨xt, hxt⟩ : ∃ xt, x.t = xt := ⟨_, rfl⟩
      rw [hxt] at gt hxz
      have HFR : Hid (∀ g, g < 6 → wr.cell? ⟨F, g, none⟩ = some (.string (fillB g))) := Lib.hid (fun g hg => (hbr.cell (p := ⟨F, g, none⟩) (show F < F + 1 by omega)).trans (fill_at HFL.out hg))
      have HROW := Lib.hid hrow
      have HBR := Lib.hid hbr
      have HS := Lib.hid hS
      have HXK := Lib.hid hxk
      have HG6 := Lib.hid hg6
      have HXT := Lib.hid hxt
      have i1 : (0 : Int) ≤ (k : Int) := by omega
      have i2 : (k : Int) < (la.length : Int) := by omega
      have hwz : F + 1 ≤ (wr.alloc (.cells #[.int .i64 0] 3)).heap.size := by simp; omega
      have hFl : F < wr.heap.size := by omega
      clear hrow hbr hS hxk hg6 hxt hc2 hr2 hgt hsl
      by_cases hgk : k < ns.length
      · obtain ⟨n0, hn0⟩ : ∃ n0, ns[k]? = some n0 := ⟨ns[k], List.getElem?_eq_getElem hgk⟩
        obtain ⟨bv, ov, rfl, hbv, hcv⟩ := HCV.out (by intro e; rw [e] at hgk; simp at hgk)
        obtain ⟨m1, m2⟩ := H64.out n0 (List.mem_of_getElem? hn0)
        have hbw := HBW3.out.trans (HBR.out.mono (by omega))
        have gv := (hbw.cell (p := ⟨bv, ov + k, none⟩) hbv).trans (hcv k n0 hn0)
        clear hcv hn0 hbw
        go_wp2_with (first
          | (go_at_call 14; refine (pick_six n0 _ m1 m2).mono ?_; rintro e w' ⟨g6, hg6, rfl, rfl⟩; have fc := HFR.out g6 hg6; have ffz := fillB_le hg6)
          | (at_builtin; refine wpList_append_own _ rfl _ _ 37 rfl (F + 1) 3 i0 _ 1 8 Tryd.underlying37 hi hz0 hz1 hz2 rfl (by decide) _ _ _ rfl (HROW.out.alloc _) ⟨wr.heap.size, 0, none⟩ 1 1 [.int .i64 ((S.size : Int) + ((fillB g6).size : Int))] rfl rfl ?c1 ?c2 ?c3 ?c4 ?c5 ?_))
        case c1 =>
          intro jj u hu
          rcases jj with _ | jj
          · cases hu; exact cells_at (World.alloc_heap_new wr _) 0 _ rfl
          · simp at hu
        case c2 => simp [Value.oneCell']
        case c3 => unfold maxLen; omega
        case c4 => omega
        case c5 => simp; omega
        intro ov' w1 hown' hgrow _
        have HO := Lib.hid hown'
        have HGR := Lib.hid hgrow
        have hbw1 : Below (F + 1) wr w1 := ((Below.refl _ wr).alloc (show F + 1 ≤ wr.heap.size by omega) _).grown hgrow (by simp; omega) (fun kk e => by
          rcases HROW.out.2 with ⟨h, _⟩ | ⟨g, cap, cur, h, hg0, _⟩
          · rw [h] at e; simp [Value.ownBlock] at e
          · rw [h] at e
            have : g = kk := by simpa [Value.ownBlock] using e
            omega)
        have gt1 := (hbw1.cell (p := ⟨bt, ot + k * 3 + 1, none⟩) (show bt < F + 1 by omega)).trans gt
        have HBW1 := Lib.hid hbw1
        obtain ⟨oa, on, oc, rfl⟩ : ∃ oa on oc, ov' = .slice oa on oc := by
          rcases hown'.2 with ⟨h, _⟩ | ⟨g, cap, cur, h, _⟩
          · exact ⟨_, _, _, h⟩
          · exact ⟨_, _, _, h⟩
        clear hown' hgrow hbw1 gt fc
        go_wp2
        go_roundw
        case rel =>
          have htl : (la.take k).length = gs.length := by rw [List.length_take, hgl]; omega
          have hSz2 : S.size = (gapT (la.take k) gs).length := by rw [← HS.out]; rfl
          have hfz : (fillB g6).size = (fillN g6).length := by unfold fillB; simp [ByteArray.size]
          refine ⟨k + 1, gs ++ [g6], S ++ fillB g6 ++ xt, ⟨by omega, by simp [hgl], ?_⟩, by go_num, rfl, ?_, ?_, HBR.out.trans HBW1.out⟩
          · intro g hg
            rcases List.mem_append.1 hg with h | h
            · exact HG6.out g h
            · rw [List.mem_singleton.1 h]; exact hg6
          · rw [take_snocT HXK.out, gapT_snoc _ _ _ _ htl, ← HS.out, HXT.out]
            simp [ByteArray.data_append, fillB]
          · rw [take_snocT HXK.out, gapA_snoc _ _ _ _ _ htl, List.map_append]
            have h := HO.out
            rw [hSz2, hfz] at h
            simpa using h
        case measure => simp [intOf]; omega
      · have m1 : -9223372036854775808 ≤ (k : Int) := by omega
        have m2 : (k : Int) ≤ 9223372036854775807 := by omega
        go_wp2_with (first
          | (go_at_call 14; refine (pick_six (k : Int) _ m1 m2).mono ?_; rintro e w' ⟨g6, hg6, rfl, rfl⟩; have fc := HFR.out g6 hg6; have ffz := fillB_le hg6)
          | (at_builtin; refine wpList_append_own _ rfl _ _ 37 rfl (F + 1) 3 i0 _ 1 8 Tryd.underlying37 hi hz0 hz1 hz2 rfl (by decide) _ _ _ rfl (HROW.out.alloc _) ⟨wr.heap.size, 0, none⟩ 1 1 [.int .i64 ((S.size : Int) + ((fillB g6).size : Int))] rfl rfl ?c1 ?c2 ?c3 ?c4 ?c5 ?_))
        case c1 =>
          intro jj u hu
          rcases jj with _ | jj
          · cases hu; exact cells_at (World.alloc_heap_new wr _) 0 _ rfl
          · simp at hu
        case c2 => simp [Value.oneCell']
        case c3 => unfold maxLen; omega
        case c4 => omega
        case c5 => simp; omega
        intro ov' w1 hown' hgrow _
        have HO := Lib.hid hown'
        have HGR := Lib.hid hgrow
        have hbw1 : Below (F + 1) wr w1 := ((Below.refl _ wr).alloc (show F + 1 ≤ wr.heap.size by omega) _).grown hgrow (by simp; omega) (fun kk e => by
          rcases HROW.out.2 with ⟨h, _⟩ | ⟨g, cap, cur, h, hg0, _⟩
          · rw [h] at e; simp [Value.ownBlock] at e
          · rw [h] at e
            have : g = kk := by simpa [Value.ownBlock] using e
            omega)
        have gt1 := (hbw1.cell (p := ⟨bt, ot + k * 3 + 1, none⟩) (show bt < F + 1 by omega)).trans gt
        have HBW1 := Lib.hid hbw1
        obtain ⟨oa, on, oc, rfl⟩ : ∃ oa on oc, ov' = .slice oa on oc := by
          rcases hown'.2 with ⟨h, _⟩ | ⟨g, cap, cur, h, _⟩
          · exact ⟨_, _, _, h⟩
          · exact ⟨_, _, _, h⟩
        clear hown' hgrow hbw1 gt fc
        go_wp2
        go_roundw
        case rel =>
          have htl : (la.take k).length = gs.length := by rw [List.length_take, hgl]; omega
          have hSz2 : S.size = (gapT (la.take k) gs).length := by rw [← HS.out]; rfl
          have hfz : (fillB g6).size = (fillN g6).length := by unfold fillB; simp [ByteArray.size]
          refine ⟨k + 1, gs ++ [g6], S ++ fillB g6 ++ xt, ⟨by omega, by simp [hgl], ?_⟩, by go_num, rfl, ?_, ?_, HBR.out.trans HBW1.out⟩
          · intro g hg
            rcases List.mem_append.1 hg with h | h
            · exact HG6.out g h
            · rw [List.mem_singleton.1 h]; exact hg6
          · rw [take_snocT HXK.out, gapT_snoc _ _ _ _ htl, ← HS.out, HXT.out]
            simp [ByteArray.data_append, fillB]
          · rw [take_snocT HXK.out, gapA_snoc _ _ _ _ _ htl, List.map_append]
            have h := HO.out
            rw [hSz2, hfz] at h
            simpa using h
        case measure => simp [intOf]; omega
    · have hkk : k = la.length := by omega
      subst hkk
      rw [List.take_length] at hS hrow
      have h2 : (S ++ endB).data.toList = gapT la gs ++ endT := by simp [ByteArray.data_append, hS, endB, endT]
      have hz2 : (S ++ endB).size = (gapT la gs ++ endT).length := by rw [← h2]; rfl
      have hall : lexAll (S ++ endB) = gapA 0 la gs := by
        rw [lexAll_eq, h2]; exact lexL_gap la gs _ 0 hgl.symm HGOOD.out hg6 (by omega)
      have herr : lexErr (S ++ endB) = none := by
        rw [lexErr_all, hall, List.all_eq_true]; intro y hy; simpa using gapA_e la gs 0 y hy
      have hgt := gapT_take s.data.toList la gs 0 la.length HLIE.out (Nat.zero_le _) hg6
      rw [List.take_length] at hgt
      have hsl : s.data.toList.length = s.size := rfl
      have hez : endT.length = 10 := rfl
      rw [List.length_append] at hz2
      have hal := gapA_alike la gs 0 hgl.symm
      have HL2 := Lib.hid (fun W h => lex_okc (S ++ endB) W (by omega) h herr)
      have hSz : S.size ≤ 4000 + 9 * 300 := by
        have : S.data.toList.length = S.size := rfl
        rw [hS] at this; omega
      rw [hall, hal.len] at HL2
      have hov : ∃ oa oc, u10 = .slice oa la.length oc ∧ (la ≠ [] → ∃ g, oa = some ⟨g, 0, none⟩ ∧ g < wr.heap.size ∧ ∀ (j : Nat) (y : Tk), (gapA 0 la gs)[j]? = some y → wr.cell? ⟨g, j, none⟩ = some (.int .i64 y.a)) := by
        rcases hrow.2 with ⟨h, h0⟩ | ⟨g, cap, cur, h, hg0, hgb, hle, hcl, hcz, htk⟩
        · refine ⟨none, 0, by rw [h, h0], fun hne => absurd (List.eq_nil_of_length_eq_zero h0) hne⟩
        · refine ⟨_, cap, h, fun _ => ⟨g, rfl, (Array.getElem?_eq_some_iff.1 hgb).1, fun j y hy => cells_at hgb j _ ?_⟩⟩
          have h3 : ((gapA 0 la gs).map fun x => Value.int .i64 x.a)[j]? = some (.int .i64 y.a) := by rw [List.getElem?_map, hy]; rfl
          rw [← htk, List.getElem?_take] at h3
          split at h3
          · rw [← Array.getElem?_toList]; exact h3
          · cases h3
      obtain ⟨oa, oc, rfl, hoc⟩ := hov
      have HOC := Lib.hid hoc
      have HBR := Lib.hid hbr
      have HAL := Lib.hid hal
      have hbz := hbr.size
      have HTAr := Lib.hid (HTA3.out.below hbr)
      have HEr := Lib.hid (HE.out.below (HBW3.out.trans (hbr.mono (by omega))))
      clear hrow hS h2 hz2 hall herr hgt hsl hez hal hoc hg6 hgl hbr
      go_wp2_with fail
      refine (HL2.out wr HEr.out).mono ?_
      clear HL2
      rintro e w5 ⟨pk, ck, rfl, htk, hb5, _⟩
      have HTK := Lib.hid (show IsToks w5.heap.size w5 (.slice pk la.length ck) (gapA 0 la gs) from htk)
      have HTA5 := Lib.hid ((HTAr.out.mono (show F + 1 ≤ wr.heap.size by omega) |>.below hb5).mono hb5.size)
      have HB5 := Lib.hid hb5
      clear htk hb5
      go_wp2_with fail
      refine (alike_any la (gapA 0 la gs) _ _ w5 HTA5.out (by have h := HTK.out; exact h) (by omega) (Eq.symm HAL.out)).mono ?_
      rintro e w6 ⟨rfl, hb6⟩
      have HB6 := Lib.hid (HB5.out.trans (hb6.mono HB5.out.size))
      have HB56 := Lib.hid hb6
      clear hb6
      go_wp2_with fail
      go_loopw [16] (fun i wt => ∃ j : Nat, j ≤ la.length ∧ i = .int .i64 j ∧ Below w5.heap.size w5 wt) (fun i _ => la.length - (intOf i).toNat)
      case atStart => exact ⟨0, Nat.zero_le _, rfl, HB56.out⟩
      case round =>
        obtain ⟨j, hj, rfl, hbt⟩ := hrel
        by_cases hlj : j < la.length
        · obtain ⟨y, hy⟩ : ∃ y, (gapA 0 la gs)[j]? = some y := ⟨(gapA 0 la gs)[j]'(by rw [HAL.out.len]; exact hlj), List.getElem?_eq_getElem _⟩
          obtain ⟨g, rfl, hgl2, hgc⟩ := HOC.out (by intro e; rw [e] at hlj; simp at hlj)
          obtain ⟨p2, c2, hv2, hr2⟩ := HTK.out
          obtain ⟨bt, ot, hp2', hbl2, hc2⟩ := hr2 (by intro e; rw [e] at hy; simp at hy)
          rw [HAL.out.len] at hv2
          cases hv2; subst hp2'
          have gk := (hbt.cell (p := ⟨bt, ot + j * 3 + 2, none⟩) hbl2).trans (hc2 j y hy).2.2
          have go := ((HB5.out.trans (hbt.mono HB5.out.size)).cell (p := ⟨g, j, none⟩) hgl2).trans (hgc j y hy)
          obtain ⟨ya, hya⟩ : ∃ ya, y.a = ya := ⟨_, rfl⟩
          rw [hya] at gk go
          have i1 : (0 : Int) ≤ (j : Int) := by omega
          have i2 : (j : Int) < (la.length : Int) := by omega
          have n1 : ((ya : Int) != (ya : Int)) = false := by simp
          have HBT := Lib.hid hbt
          clear hbt hc2 hr2 hgc hy hya
          go_wp2_with fail
          go_quiet (fail)
          go_wp2_with fail
          go_roundw
          case rel =>
            have h := HBT.out
            exact ⟨j + 1, by omega, by go_num, ⟨h.os, h.tape, h.output, h.size, h.block⟩⟩
          case measure => simp [intOf]; omega
        · have HBT := Lib.hid hbt
          clear hbt
          go_wp2
          go_ret
          exact ⟨rfl, (HBW3.out.trans (HBR.out.mono (by omega))).trans ((HB5.out.trans (HBT.out.mono HB5.out.size)).mono (by omega))⟩
theorem blanks_any (s : ByteArray) (v : Value) (ns : List Int) (w : World) (hV : IsInts w.heap.size w v ns) (hs : s.size ≤ maxLen) (hE : ErrOk w) :
    Calls Tryd.prog 5 #[.string s, v] w fun e w' => e = .returned (.bool true) ∧ Below w.heap.size w w' := by
  have hV' := hV
  obtain ⟨⟨pv, cv, hv, _, _⟩, _⟩ := hV'
  by_cases hl : 32768 < s.size
  · exact blanks_long s v pv ns.length cv hv w hE hl hs
  · have hl' : s.size ≤ 32768 := by omega
    cases hx : lexErr s with
    | some x => exact blanks_err s v pv ns.length cv hv w hE hl' x hx
    | none =>
      by_cases hm : 300 < (lexAll s).length ∨ 4000 < s.size
      · exact blanks_many s v pv ns.length cv hv w hE hl' hx hm
      · exact blanks_main s v ns w hV hE (by omega) hx (by omega)
end Go.Proofs.YtpnkmpmgadciaaaDoor
