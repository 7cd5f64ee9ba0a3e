/- The law of two sources (LexSplits): its walk. -/
import Derived.Test.YtpnkmpmgadciaaaDoorLz
import Derived.Test.YtpnkmpmgadciaaaDoorLa
import Derived.Test.YtpnkmpmgadciaaaDoorLm
namespace Go.Proofs.YtpnkmpmgadciaaaDoor
open Go.RowKit

/-- Lex at a source without a fault, its slice written out. -/
theorem lex_okc (s : ByteArray) (w : World) (hs : s.size ≤ 32768) (hE : ErrOk w) (hn : lexErr s = none) :
    Calls Tryd.prog 11 #[.string s] w fun e w' => ∃ p cap, e = .returned (.tuple #[.slice p (lexAll s).length cap, .int .i64 0, .int .i64 0]) ∧ IsToks w'.heap.size w' (.slice p (lexAll s).length cap) (lexAll s) ∧ Below w.heap.size w w' ∧
      ((lexAll s = [] ∧ p = none ∧ cap = 0) ∨ (lexAll s ≠ [] ∧ (lexAll s).length ≤ cap ∧ cap ≤ maxLen)) :=
  (callsIn_wide.1 (lex_in s w hs hE)).mono fun e w' h => by
    unfold LexPost at h; rw [hn] at h
    obtain ⟨hb, v, h1, h2, h3⟩ := h
    have hT := isToks_of_row h2
    by_cases hemp : lexAll s = []
    · obtain rfl := h3.2 hemp
      refine ⟨none, 0, ?_, ?_, hb, .inl ⟨hemp, rfl, rfl⟩⟩
      · rw [h1, hemp]; rfl
      · rw [hemp] at hT ⊢; exact hT
    · rcases h2.2 with ⟨rfl, h0⟩ | ⟨g, cap, cur, rfl, hg0, hgb, hle, hcl, _⟩
      · exact absurd (h3.1 rfl) hemp
      · exact ⟨_, _, h1, hT, hb, .inr ⟨hemp, hle, hcl⟩⟩

theorem shift_alike (d : Nat) (l : List Tk) : Alike (l.map (shiftT d)) l := by
  unfold Alike; rw [List.map_map]; rfl
theorem lexErr_ne {s : ByteArray} {x : Tk} (h : lexErr s = some x) : (x.e == 0) = false ∧ (x.e != 0) = true := by
  unfold lexErr at h
  have := List.find?_some h
  simp at this
  exact ⟨by simpa using this, by simpa using this⟩

/-- Lex at whatever source within the limit: what the walk wants of it. -/
theorem lex_whatever (s : ByteArray) (w : World) (hs : s.size ≤ 32768) (hE : ErrOk w) : Calls Tryd.prog 11 #[.string s] w fun e w' => ∃ p n cap, ∃ a er : Int, e = .returned (.tuple #[.slice p n cap, .int .i64 a, .int .i64 er]) ∧ Below w.heap.size w w' := by
  cases h : lexErr s with
  | none => exact (lex_okc s w hs hE h).mono fun e w' ⟨p, cap, h1, _, h2, _⟩ => ⟨p, _, cap, _, _, h1, h2⟩
  | some x => exact (lex_err s w hs hE x h).mono fun e w' ⟨h1, h2⟩ => ⟨_, _, _, _, _, h1, h2⟩

set_option maxRecDepth 100000 in
set_option maxHeartbeats 4000000 in
theorem splits_long (a b : ByteArray) (w : World) (ha : a.size ≤ maxLen) (hb : b.size ≤ maxLen) (hE : ErrOk w) (hl : 2000 < a.size ∨ 2000 < b.size) :
    Calls Tryd.prog 6 #[.string a, .string b] w fun e w' => e = .returned (.bool true) ∧ Below w.heap.size w w' := by
  unfold maxLen at ha hb
  have HAW := Lib.hid (lexAwake_any w hE)
  clear hE
  by_cases h1 : 2000 < a.size <;> by_cases h2 : 2000 < b.size
  all_goals first
    | (exfalso; omega)
    | (clear hl
       go_enter Tryd.func6, Tryd.ntmps6
       go_wp2_with (go_at_call 7; refine HAW.out.mono ?_; clear HAW; rintro e w1 ⟨rfl, hb1⟩)
       go_ret
       exact ⟨rfl, hb1⟩)

set_option maxRecDepth 100000 in
set_option maxHeartbeats 4000000 in
theorem splits_first (a b : ByteArray) (w : World) (ha : a.size ≤ 2000) (hb : b.size ≤ 2000) (hE : ErrOk w) (x : Tk) (hx : lexErr a = some x) :
    Calls Tryd.prog 6 #[.string a, .string b] w fun e w' => e = .returned (.bool true) ∧ Below w.heap.size w w' := by
  have HAW := Lib.hid (lexAwake_any w hE)
  have HE := Lib.hid hE
  have hx2 := lex2_err (b := b) hx
  have hsz := lex2_size a b
  have HL1 := Lib.hid (fun W h => lex_err a W (by omega) h x hx)
  have HL2 := Lib.hid (fun W h => lex_whatever b W (by omega) h)
  have HL3 := Lib.hid (fun W h => lex_err (lex2 a b) W (by omega) h x hx2)
  obtain ⟨e1, e2⟩ := lexErr_ne hx
  clear hE hx hx2 hsz
  go_enter Tryd.func6, Tryd.ntmps6
  go_wp2_with (go_at_call 7; refine HAW.out.mono ?_; clear HAW; rintro e w1 ⟨rfl, hb1⟩; have HB1 := Lib.hid hb1; clear hb1)
  refine (HL1.out w1 (HE.out.below HB1.out)).mono ?_
  rintro e w2 ⟨rfl, hb2⟩
  have HB2 := Lib.hid (HB1.out.trans (hb2.mono HB1.out.size))
  clear hb2
  go_wp2_with fail
  refine (HL2.out w2 (HE.out.below HB2.out)).mono ?_
  rintro e w3 ⟨p, n, cap, aa, er, rfl, hb3⟩
  have HB3 := Lib.hid (HB2.out.trans (hb3.mono HB2.out.size))
  clear hb3
  go_wp2_with fail
  refine (HL3.out w3 (HE.out.below HB3.out)).mono ?_
  rintro e w4 ⟨rfl, hb4⟩
  have HB4 := Lib.hid (HB3.out.trans (hb4.mono HB3.out.size))
  clear hb4
  go_wp2
  go_ret
  exact ⟨rfl, HB4.out⟩

set_option maxRecDepth 100000 in
set_option maxHeartbeats 4000000 in
theorem splits_second (a b : ByteArray) (w : World) (ha : a.size ≤ 2000) (hb : b.size ≤ 2000) (hE : ErrOk w) (hx : lexErr a = none) (y : Tk) (hy : lexErr b = some y) (hya : y.a ≤ 2000) :
    Calls Tryd.prog 6 #[.string a, .string b] w fun e w' => e = .returned (.bool true) ∧ Below w.heap.size w w' := by
  have HAW := Lib.hid (lexAwake_any w hE)
  have HE := Lib.hid hE
  have hx2 : lexErr (lex2 a b) = some (shiftT (a.size + 1) y) := by rw [lex2_second hx, hy]; rfl
  have hsz := lex2_size a b
  have HL1 := Lib.hid (fun W h => lex_okc a W (by omega) h hx)
  have HL2 := Lib.hid (fun W h => lex_err b W (by omega) h y hy)
  have HL3 : Hid (∀ W, ErrOk W → Calls Tryd.prog 11 #[.string (lex2 a b)] W fun e w' => e = .returned (.tuple #[.slice none 0 0, .int .i64 ((y.a : Int) + (a.size : Int) + 1), .int .i64 y.e]) ∧ Below W.heap.size W w') := Lib.hid (fun W h => by
    have := lex_err (lex2 a b) W (by omega) h _ hx2
    rw [show (shiftT (a.size + 1) y).e = y.e from rfl, show (((shiftT (a.size + 1) y).a : Nat) : Int) = (y.a : Int) + (a.size : Int) + 1 from by unfold shiftT; simp; omega] at this
    exact this)
  obtain ⟨e1, e2⟩ := lexErr_ne hy
  clear hE hx hx2 hy hsz
  go_enter Tryd.func6, Tryd.ntmps6
  go_wp2_with (go_at_call 7; refine HAW.out.mono ?_; clear HAW; rintro e w1 ⟨rfl, hb1⟩; have HB1 := Lib.hid hb1; clear hb1)
  refine (HL1.out w1 (HE.out.below HB1.out)).mono ?_
  rintro e w2 ⟨p, cap, rfl, _, hb2, _⟩
  have HB2 := Lib.hid (HB1.out.trans (hb2.mono HB1.out.size))
  clear hb2
  go_wp2_with fail
  refine (HL2.out w2 (HE.out.below HB2.out)).mono ?_
  rintro e w3 ⟨rfl, hb3⟩
  have HB3 := Lib.hid (HB2.out.trans (hb3.mono HB2.out.size))
  clear hb3
  go_wp2_with fail
  refine (HL3.out w3 (HE.out.below HB3.out)).mono ?_
  rintro e w4 ⟨rfl, hb4⟩
  have HB4 := Lib.hid (HB3.out.trans (hb4.mono HB3.out.size))
  clear hb4
  go_wp2
  go_ret
  exact ⟨rfl, HB4.out⟩

theorem lexL_at_lt : ∀ (f : Nat) (l : List UInt8) (a : Nat), ∀ x ∈ lexL f l a, x.a < a + l.length
  | 0, _, _, x, h => by simp [lexL] at h
  | f + 1, l, a, x, h => by
    have hs := (sk_suffix l false).length_le
    unfold lexL at h
    cases hsk : sk false l with
    | nil => rw [hsk] at h; simp at h
    | cons c r =>
      rw [hsk] at h hs
      simp only [List.length_cons] at hs
      simp only [] at h
      split at h
      · rename_i he
        rcases List.mem_cons.1 h with rfl | h
        · simp only [List.length_cons]; omega
        · have h1 := lexL_at_lt f _ _ x h
          have h2 := tLen_le (c :: r)
          have h3 := tLen_pos he
          rw [List.length_drop] at h1
          simp only [List.length_cons] at h1 h2
          omega
      · have := List.mem_singleton.1 h
        rw [this]; simp only [List.length_cons]; omega
theorem lexAll_at {s : ByteArray} {x : Tk} (h : x ∈ lexAll s) : x.a < s.size := by
  rw [lexAll_eq] at h
  have := lexL_at_lt _ _ _ x h
  have e : s.data.toList.length = s.size := rfl
  omega

set_option maxRecDepth 100000 in
set_option maxHeartbeats 8000000 in
theorem splits_both (a b : ByteArray) (w : World) (ha : a.size ≤ 2000) (hb : b.size ≤ 2000) (hE : ErrOk w) (hx : lexErr a = none) (hy : lexErr b = none) (hne : lexAll (lex2 a b) ≠ []) :
    Calls Tryd.prog 6 #[.string a, .string b] w fun e w' => e = .returned (.bool true) ∧ Below w.heap.size w w' := by
  have HAW := Lib.hid (lexAwake_any w hE)
  have HE := Lib.hid hE
  have hx2 : lexErr (lex2 a b) = none := by rw [lex2_second hx, hy]; rfl
  have hsz := lex2_size a b
  have HL1 := Lib.hid (fun W h => lex_okc a W (by omega) h hx)
  have HL2 := Lib.hid (fun W h => lex_okc b W (by omega) h hy)
  have HL3 := Lib.hid (fun W h => lex_okc (lex2 a b) W (by omega) h hx2)
  have hall := lex2_ok (b := b) hx
  have n1 := lexAll_le a
  have n2 := lexAll_le b
  have hAt : ∀ x ∈ lexAll b, x.a < b.size := fun x h => lexAll_at h
  obtain ⟨la, hla⟩ : ∃ la, lexAll a = la := ⟨_, rfl⟩
  obtain ⟨lb, hlb⟩ : ∃ lb, lexAll b = lb := ⟨_, rfl⟩
  obtain ⟨lm, hlm⟩ : ∃ lm, lexAll (lex2 a b) = lm := ⟨_, rfl⟩
  rw [hlm, hla, hlb] at hall
  rw [hla] at n1 HL1
  rw [hlb] at n2 HL2 hAt
  rw [hlm] at HL3 hne
  have HALL := Lib.hid hall
  have HNE := Lib.hid hne
  have HAT := Lib.hid hAt
  have hlen : lm.length = la.length + lb.length := by rw [hall]; simp
  rw [hlen] at HL3
  have HLEN := Lib.hid hlen
  clear hE hx hx2 hsz hall hne hla hlb hlm hy hlen hAt
  go_enter Tryd.func6, Tryd.ntmps6
  go_wp2_with (go_at_call 7; refine HAW.out.mono ?_; clear HAW; rintro e w1 ⟨rfl, hb1⟩; have HB1 := Lib.hid hb1; clear hb1)
  refine (HL1.out w1 (HE.out.below HB1.out)).mono ?_
  rintro e w2 ⟨pa, ca, rfl, hta, hb2, _⟩
  have HB2 := Lib.hid (HB1.out.trans (hb2.mono HB1.out.size))
  have HTA := Lib.hid hta
  clear hb2 hta
  go_wp2_with fail
  refine (HL2.out w2 (HE.out.below HB2.out)).mono ?_
  rintro e w3 ⟨pb, cb, rfl, htb, hb3, _⟩
  have HTA3 := Lib.hid ((HTA.out.below hb3).mono hb3.size)
  have HB3 := Lib.hid (HB2.out.trans (hb3.mono HB2.out.size))
  have HTB := Lib.hid htb
  clear hb3 htb HTA
  go_wp2_with fail
  refine (HL3.out w3 (HE.out.below HB3.out)).mono ?_
  rintro e w4 ⟨pm, cm, rfl, htm, hb4, hcm⟩
  rcases hcm with ⟨h, _⟩ | ⟨_, hcm1, hcm2⟩
  · exact absurd h HNE.out
  have HTA4 := Lib.hid ((HTA3.out.below hb4).mono hb4.size)
  have HTB4 := Lib.hid ((HTB.out.below hb4).mono hb4.size)
  have HB4 := Lib.hid (HB3.out.trans (hb4.mono HB3.out.size))
  have htm' : IsToks w4.heap.size w4 (.slice pm lm.length cm) lm := by rw [HLEN.out]; exact htm
  have hpm : ∃ bm om, pm = some ⟨bm, om, none⟩ ∧ bm < w4.heap.size := by
    obtain ⟨p, cap', hv, hr⟩ := htm'
    obtain ⟨b', off', hp, hbB, _⟩ := hr HNE.out
    cases hv
    exact ⟨_, _, hp, hbB⟩
  obtain ⟨bm, om, rfl, hbm⟩ := hpm
  have HTM := Lib.hid htm'
  clear hb4 htm htm' HTA3 HTB HL1 HL2 HL3
  unfold maxLen at hcm2
  have hp1 := Lib.hid (HTM.out.fst la (lb.map (shiftT (a.size + 1))) HALL.out ca)
  by_cases hcap : la.length = cm
  · have hlb : lb = [] := List.eq_nil_of_length_eq_zero (by omega)
    subst hlb
    subst hcap
    go_wp2_with fail
    refine (alike_any la la _ _ w4 (HTM.out.fst la _ HALL.out _) HTA4.out (by omega) rfl).mono ?_
    rintro e w5 ⟨rfl, hb5⟩
    have HB5 := Lib.hid hb5
    clear hb5
    go_wp2_with fail
    refine (alike_any [] [] _ _ w5 ⟨_, _, rfl, fun h => absurd rfl h⟩ ⟨_, _, rfl, fun h => absurd rfl h⟩ (by simp) rfl).mono ?_
    rintro e w6 ⟨rfl, hb6⟩
    have HB6 := Lib.hid (HB5.out.trans (hb6.mono HB5.out.size))
    clear hb6
    go_wp2_with fail
    go_loopw [14] (fun i wr => ∃ k : Nat, k ≤ la.length ∧ i = .int .i64 k ∧ Below w4.heap.size w4 wr) (fun i _ => la.length - (intOf i).toNat)
    case atStart => exact ⟨0, by omega, rfl, HB6.out⟩
    case round =>
      obtain ⟨k, hk, rfl, hbr⟩ := hrel
      by_cases hlt : k < la.length
      · obtain ⟨x, hx⟩ : ∃ x, la[k]? = some x := ⟨la[k], List.getElem?_eq_getElem hlt⟩
        have hxm : lm[k]? = some x := by rw [HALL.out]; simpa using hx
        obtain ⟨p1, c1, hv1, hr1⟩ := HTM.out
        obtain ⟨b1, o1, hp1', hbl1, hc1⟩ := hr1 HNE.out
        cases hv1; cases hp1'
        obtain ⟨p2, c2, hv2, hr2⟩ := HTA4.out
        obtain ⟨b2, o2, hp2', hbl2, hc2⟩ := hr2 (by intro e; rw [e] at hlt; simp at hlt)
        cases hv2; subst hp2'
        have g2 := (hbr.cell (p := ⟨bm, om + k * 3 + 2, none⟩) hbl1).trans (hc1 k x hxm).2.2
        have q2 := (hbr.cell (p := ⟨b2, o2 + k * 3 + 2, none⟩) hbl2).trans (hc2 k x hx).2.2
        have i1 : (0 : Int) ≤ (k : Int) := by omega
        have i2 : (k : Int) < (la.length : Int) := by omega
        have hge : decide (la.length ≤ k) = false := decide_eq_false (by omega)
        have hneq : ((x.a : Int) != (x.a : Int)) = false := by simp
        have HBR := Lib.hid hbr
        clear hbr hc1 hr1 hc2 hr2 hx hxm
        go_wp2_with fail
        go_quiet (fail)
        go_wp2_with fail
        go_roundw
        case rel =>
          have h := HBR.out
          exact ⟨k + 1, by omega, by go_num, ⟨h.os, h.tape, h.output, h.size, h.block⟩⟩
        case measure => simp [intOf]; omega
      · have HBR := Lib.hid hbr
        clear hbr
        go_wp2
        go_ret
        exact ⟨rfl, HB4.out.trans (HBR.out.mono HB4.out.size)⟩
  · have hlt : la.length < cm := by omega
    clear hcap
    go_wp2_with fail
    refine (alike_any la la _ _ w4 (HTM.out.fst la _ HALL.out _) HTA4.out (by omega) rfl).mono ?_
    rintro e w5 ⟨rfl, hb5⟩
    have HB5 := Lib.hid hb5
    clear hb5
    go_wp2_with fail
    refine (alike_any (lb.map (shiftT (a.size + 1))) lb _ _ w5 (by
      have h := (HTM.out.snd la _ HALL.out (om + la.length * 3) (cm - la.length) (fun _ => rfl))
      rw [List.length_map] at h
      exact (h.below HB5.out).mono HB5.out.size) ((HTB4.out.below HB5.out).mono HB5.out.size) (by rw [List.length_map]; omega) (shift_alike _ _)).mono ?_
    rintro e w6 ⟨rfl, hb6⟩
    have HB6 := Lib.hid (HB5.out.trans (hb6.mono HB5.out.size))
    clear hb6
    go_wp2_with fail
    go_loopw [14] (fun i wr => ∃ k : Nat, k ≤ la.length + lb.length ∧ i = .int .i64 k ∧ Below w4.heap.size w4 wr) (fun i _ => la.length + lb.length - (intOf i).toNat)
    case atStart => exact ⟨0, by omega, rfl, HB6.out⟩
    case round =>
      obtain ⟨k, hk, rfl, hbr⟩ := hrel
      by_cases hl1 : k < la.length
      · obtain ⟨x, hx⟩ : ∃ x, la[k]? = some x := ⟨la[k], List.getElem?_eq_getElem hl1⟩
        have hxm : lm[k]? = some x := by rw [HALL.out, List.getElem?_append_left hl1]; exact hx
        obtain ⟨p1, c1, hv1, hr1⟩ := HTM.out
        obtain ⟨b1, o1, hp1', hbl1, hc1⟩ := hr1 HNE.out
        cases hv1; cases hp1'
        obtain ⟨p2, c2, hv2, hr2⟩ := HTA4.out
        obtain ⟨b2, o2, hp2', hbl2, hc2⟩ := hr2 (by intro e; rw [e] at hl1; simp at hl1)
        cases hv2; subst hp2'
        have g2 := (hbr.cell (p := ⟨bm, om + k * 3 + 2, none⟩) hbl1).trans (hc1 k x hxm).2.2
        have q2 := (hbr.cell (p := ⟨b2, o2 + k * 3 + 2, none⟩) hbl2).trans (hc2 k x hx).2.2
        have i1 : (0 : Int) ≤ (k : Int) := by omega
        have i2 : (k : Int) < (la.length : Int) := by omega
        have i3 : (k : Int) < (la.length : Int) + (lb.length : Int) := by omega
        have hge : decide (la.length ≤ k) = false := decide_eq_false (by omega)
        have hneq : ((x.a : Int) != (x.a : Int)) = false := by simp
        have HBR := Lib.hid hbr
        clear hbr hc1 hr1 hc2 hr2 hx hxm
        go_wp2_with fail
        go_quiet (fail)
        go_wp2_with fail
        go_roundw
        case rel =>
          have h := HBR.out
          exact ⟨k + 1, by omega, by go_num, ⟨h.os, h.tape, h.output, h.size, h.block⟩⟩
        case measure => simp [intOf]; omega
      · by_cases hl2 : k < la.length + lb.length
        · obtain ⟨j, rfl⟩ : ∃ j, k = la.length + j := ⟨k - la.length, by omega⟩
          have hj : j < lb.length := by omega
          obtain ⟨x, hx⟩ : ∃ x, lb[j]? = some x := ⟨lb[j], List.getElem?_eq_getElem hj⟩
          have hxm : lm[la.length + j]? = some (shiftT (a.size + 1) x) := by
            rw [HALL.out, List.getElem?_append_right (by omega), Nat.add_sub_cancel_left, List.getElem?_map, hx]; rfl
          obtain ⟨p1, c1, hv1, hr1⟩ := HTM.out
          obtain ⟨b1, o1, hp1', hbl1, hc1⟩ := hr1 HNE.out
          cases hv1; cases hp1'
          obtain ⟨p2, c2, hv2, hr2⟩ := HTB4.out
          obtain ⟨b2, o2, hp2', hbl2, hc2⟩ := hr2 (by intro e; rw [e] at hj; simp at hj)
          cases hv2; subst hp2'
          have hxa := HAT.out x (List.mem_of_getElem? hx)
          have g2 := (hbr.cell (p := ⟨bm, om + (la.length + j) * 3 + 2, none⟩) hbl1).trans (hc1 _ _ hxm).2.2
          rw [show (((shiftT (a.size + 1) x).a : Nat) : Int) = (x.a : Int) + (a.size : Int) + 1 from by unfold shiftT; simp; omega] at g2
          have q2 := (hbr.cell (p := ⟨b2, o2 + j * 3 + 2, none⟩) hbl2).trans (hc2 j x hx).2.2
          have i1 : (0 : Int) ≤ (j : Int) := by omega
          have i2 : (j : Int) < (lb.length : Int) := by omega
          have i3 : (la.length : Int) + (j : Int) < (la.length : Int) + (lb.length : Int) := by omega
          have hlt' : decide ((la.length : Int) + (j : Int) < (la.length : Int)) = false := decide_eq_false (by omega)
          have hlt2 : decide (la.length + j < la.length) = false := decide_eq_false (by omega)
          have hge : decide ((la.length : Int) ≤ (la.length : Int) + (j : Int)) = true := decide_eq_true (by omega)
          have hge2 : decide (la.length ≤ la.length + j) = true := decide_eq_true (by omega)
          have hneq : ((x.a : Int) + (a.size : Int) + 1 != (x.a : Int) + (a.size : Int) + 1) = false := by simp
          have HBR := Lib.hid hbr
          clear hbr hc1 hr1 hc2 hr2 hx hxm hl1
          go_wp2_with fail
          go_quiet (fail)
          go_wp2_with fail
          go_roundw
          case rel =>
            have h := HBR.out
            exact ⟨la.length + j + 1, by omega, by go_num, ⟨h.os, h.tape, h.output, h.size, h.block⟩⟩
          case measure => simp [intOf]; omega
        · have HBR := Lib.hid hbr
          clear hbr
          go_wp2
          go_ret
          exact ⟨rfl, HB4.out.trans (HBR.out.mono HB4.out.size)⟩

set_option maxRecDepth 100000 in
set_option maxHeartbeats 8000000 in
theorem splits_none (a b : ByteArray) (w : World) (ha : a.size ≤ 2000) (hb : b.size ≤ 2000) (hE : ErrOk w) (hx : lexErr a = none) (hy : lexErr b = none) (hne : lexAll (lex2 a b) = []) :
    Calls Tryd.prog 6 #[.string a, .string b] w fun e w' => e = .returned (.bool true) ∧ Below w.heap.size w w' := by
  have HAW := Lib.hid (lexAwake_any w hE)
  have HE := Lib.hid hE
  have hx2 : lexErr (lex2 a b) = none := by rw [lex2_second hx, hy]; rfl
  have hsz := lex2_size a b
  have hall := lex2_ok (b := b) hx
  rw [hne] at hall
  have hla : lexAll a = [] := by
    cases h : lexAll a with
    | nil => rfl
    | cons x r => rw [h] at hall; simp at hall
  have hlb : lexAll b = [] := by
    cases h : lexAll b with
    | nil => rfl
    | cons x r => rw [hla, h] at hall; simp at hall
  have HN : ∀ s : ByteArray, s.size ≤ 32768 → lexErr s = none → lexAll s = [] → ∀ W, ErrOk W → Calls Tryd.prog 11 #[.string s] W fun e w' => e = .returned (.tuple #[.slice none 0 0, .int .i64 0, .int .i64 0]) ∧ Below W.heap.size W w' := fun s hs h1 h2 W h => (lex_okc s W hs h h1).mono fun e w' ⟨p, cap, he, _, hb, hc⟩ => by
    rcases hc with ⟨_, rfl, rfl⟩ | ⟨h3, _⟩
    · rw [h2] at he; exact ⟨he, hb⟩
    · exact absurd h2 h3
  have HL1 := Lib.hid (HN a (by omega) hx hla)
  have HL2 := Lib.hid (HN b (by omega) hy hlb)
  have HL3 := Lib.hid (HN (lex2 a b) (by omega) hx2 hne)
  clear hE hx hx2 hsz hall hne hla hlb hy HN
  go_enter Tryd.func6, Tryd.ntmps6
  go_wp2_with (go_at_call 7; refine HAW.out.mono ?_; clear HAW; rintro e w1 ⟨rfl, hb1⟩; have HB1 := Lib.hid hb1; clear hb1)
  refine (HL1.out w1 (HE.out.below HB1.out)).mono ?_
  rintro e w2 ⟨rfl, hb2⟩
  have HB2 := Lib.hid (HB1.out.trans (hb2.mono HB1.out.size))
  clear hb2
  go_wp2_with fail
  refine (HL2.out w2 (HE.out.below HB2.out)).mono ?_
  rintro e w3 ⟨rfl, hb3⟩
  have HB3 := Lib.hid (HB2.out.trans (hb3.mono HB2.out.size))
  clear hb3
  go_wp2_with fail
  refine (HL3.out w3 (HE.out.below HB3.out)).mono ?_
  rintro e w4 ⟨rfl, hb4⟩
  have HB4 := Lib.hid (HB3.out.trans (hb4.mono HB3.out.size))
  clear hb4
  go_wp2_with fail
  refine (alike_any [] [] _ _ w4 ⟨_, _, rfl, fun h => absurd rfl h⟩ ⟨_, _, rfl, fun h => absurd rfl h⟩ (by simp) rfl).mono ?_
  rintro e w5 ⟨rfl, hb5⟩
  have HB5 := Lib.hid (HB4.out.trans (hb5.mono HB4.out.size))
  clear hb5
  go_wp2_with fail
  refine (alike_any [] [] _ _ w5 ⟨_, _, rfl, fun h => absurd rfl h⟩ ⟨_, _, rfl, fun h => absurd rfl h⟩ (by simp) rfl).mono ?_
  rintro e w6 ⟨rfl, hb6⟩
  have HB6 := Lib.hid (HB5.out.trans (hb6.mono HB5.out.size))
  clear hb6
  go_wp2_with fail
  go_loopw [14] (fun i wr => i = .int .i64 0 ∧ Below w.heap.size w wr) (fun _ _ => 0)
  case atStart => exact ⟨rfl, HB6.out⟩
  case round =>
    obtain ⟨rfl, hbr⟩ := hrel
    have HBR := Lib.hid hbr
    clear hbr
    go_wp2
    go_ret
    exact ⟨rfl, HBR.out⟩

/-- The law. -/
theorem splits_any (a b : ByteArray) (w : World) (ha : a.size ≤ maxLen) (hb : b.size ≤ maxLen) (hE : ErrOk w) :
    Calls Tryd.prog 6 #[.string a, .string b] w fun e w' => e = .returned (.bool true) ∧ Below w.heap.size w w' := by
  by_cases hl : 2000 < a.size ∨ 2000 < b.size
  · exact splits_long a b w ha hb hE hl
  · have h1 : a.size ≤ 2000 := by omega
    have h2 : b.size ≤ 2000 := by omega
    cases hx : lexErr a with
    | some x => exact splits_first a b w h1 h2 hE x hx
    | none =>
      cases hy : lexErr b with
      | some y =>
        refine splits_second a b w h1 h2 hE hx y hy ?_
        have := lexAll_at (List.mem_of_find?_eq_some (show (lexAll b).find? _ = some y from hy))
        omega
      | none =>
        by_cases hne : lexAll (lex2 a b) = []
        · exact splits_none a b w h1 h2 hE hx hy hne
        · exact splits_both a b w h1 h2 hE hx hy hne
end Go.Proofs.YtpnkmpmgadciaaaDoor
