/- The law of joined tokens (LexBack): its walk. -/
import Derived.Test.YtpnkmpmgadciaaaDoorLz
import Derived.Test.YtpnkmpmgadciaaaDoorLb
import Derived.Test.YtpnkmpmgadciaaaDoorLs
import Derived.IntWalk
namespace Go.Proofs.YtpnkmpmgadciaaaDoor
open Go.RowKit

set_option maxRecDepth 100000 in
set_option maxHeartbeats 4000000 in
theorem empty_any (s : ByteArray) (w : World) (hs : s.size ≤ maxLen) (h : emp false s.data.toList = true) :
    Calls Tryd.prog 13 #[.string s] w fun e w' => e = .returned (.bool true) ∧ w' = w := by
  have hs' := hs; clear hs; unfold maxLen at hs'
  have HE := Lib.hid h
  clear h
  go_enter Tryd.func13, Tryd.ntmps13
  go_wp2
  go_loop [3, 4] (fun c i => ∃ (k : Nat) (b : Bool), k ≤ s.size ∧ i = .int .i64 k ∧ c = .bool b ∧ emp b (s.data.toList.drop k) = true) (fun _ i => s.size - (intOf i).toNat)
  case atStart => exact ⟨0, false, Nat.zero_le _, rfl, rfl, HE.out⟩
  case round =>
    obtain ⟨k, b, hk, rfl, rfl, hr⟩ := hrel
    by_cases hlt : k < s.size
    · have hd : s.data.toList.drop k = s[k] :: s.data.toList.drop (k + 1) := List.drop_eq_getElem_cons (by simpa using hlt : k < s.data.toList.length)
      rw [hd] at hr
      have beq : ∀ n : UInt8, s[k] = n → (s[k].toNat : Int) = (n.toNat : Int) := fun n e => by rw [e]
      have bne : ∀ n : UInt8, s[k] ≠ n → ((s[k].toNat : Int) == (n.toNat : Int)) = false := fun n e => by
        rw [beq_eq_false_iff_ne]; intro h; exact e (UInt8.toNat_inj.1 (by omega))
      by_cases h10 : s[k] = 10
      · have HN := Lib.hid (show emp false (s.data.toList.drop (k + 1)) = true by rw [h10] at hr; simpa [emp] using hr)
        have g10 : (s[k].toNat : Int) = 10 := beq 10 h10
        clear hr hd h10 beq bne
        go_wp2
        go_round
        case rel => exact ⟨k + 1, false, by omega, by go_num, rfl, HN.out⟩
        case measure => simp [intOf]; omega
      · have g10 : ((s[k].toNat : Int) == 10) = false := bne 10 h10
        cases b
        · by_cases h37 : s[k] = 37
          · have HN := Lib.hid (show emp true (s.data.toList.drop (k + 1)) = true by rw [h37] at hr; simpa [emp] using hr)
            have g37 : (s[k].toNat : Int) = 37 := beq 37 h37
            clear hr hd h10 beq bne h37 g10
            go_wp2
            go_round
            case rel => exact ⟨k + 1, true, by omega, by go_num, rfl, HN.out⟩
            case measure => simp [intOf]; omega
          · have g37 : ((s[k].toNat : Int) == 37) = false := bne 37 h37
            have hb : (s[k] = 32 ∨ s[k] = 9 ∨ s[k] = 13) ∧ emp false (s.data.toList.drop (k + 1)) = true := by
              by_cases hb : s[k] = 32 ∨ s[k] = 9 ∨ s[k] = 13
              · refine ⟨hb, ?_⟩
                rw [emp, if_neg h10] at hr
                simp only [Bool.false_eq_true, if_false] at hr
                rwa [if_neg h37, if_pos hb] at hr
              · rw [emp, if_neg h10] at hr
                simp only [Bool.false_eq_true, if_false] at hr
                rw [if_neg h37, if_neg hb] at hr; cases hr
            have HN := Lib.hid hb.2
            have hb1 := hb.1
            clear hr hd h10 h37 hb
            rcases hb1 with h | h | h
            · have g := beq 32 h
              have g' : (s[k].toNat : Int) = 32 := g
              clear beq bne h g g10 g37
              go_wp2
              go_round
              case rel => exact ⟨k + 1, false, by omega, by go_num, rfl, HN.out⟩
              case measure => simp [intOf]; omega
            · have g' : (s[k].toNat : Int) = 9 := beq 9 h
              clear beq bne h g10 g37
              go_wp2
              go_round
              case rel => exact ⟨k + 1, false, by omega, by go_num, rfl, HN.out⟩
              case measure => simp [intOf]; omega
            · have g' : (s[k].toNat : Int) = 13 := beq 13 h
              clear beq bne h g10 g37
              go_wp2
              go_round
              case rel => exact ⟨k + 1, false, by omega, by go_num, rfl, HN.out⟩
              case measure => simp [intOf]; omega
        · have HN := Lib.hid (show emp true (s.data.toList.drop (k + 1)) = true by rw [emp, if_neg h10] at hr; simpa using hr)
          clear hr hd h10 beq bne
          go_wp2
          go_round
          case rel => exact ⟨k + 1, true, by omega, by go_num, rfl, HN.out⟩
          case measure => simp [intOf]; omega
    · clear hr
      go_wp2
      go_ret
      exact ⟨rfl, rfl⟩

theorem joinL_eq : ∀ l : List Tk, joinL l = joinT l
  | [] => rfl
  | [x] => by unfold joinL joinT; simp only [List.map_cons, List.map_nil]; exact Lib.join_one _ _
  | x :: y :: r => by
    have ih := joinL_eq (y :: r)
    unfold joinL at ih ⊢
    show _ = x.t.data.toList ++ 32 :: joinT (y :: r)
    rw [← ih]
    simp only [List.map_cons]
    rw [Lib.join_cons, Lib.join_cons]
    simp [Lib.joinTail]
theorem joinT_len (L : List UInt8) : ∀ (l : List Tk) (fr : Nat), LieFrom L fr l → fr ≤ L.length → (joinT l).length ≤ (L.length - fr) + l.length
  | [], _, _, _ => by simp [joinT]
  | [x], fr, h, _ => by
    obtain ⟨h1, h2, _⟩ := h
    show x.t.data.toList.length ≤ _
    simp only [List.length_cons, List.length_nil]; omega
  | x :: y :: r, fr, h, _ => by
    obtain ⟨h1, h2, _, _, h5⟩ := h
    have ih := joinT_len L (y :: r) _ h5 (by omega)
    have hl : (joinT (x :: y :: r)).length = x.t.data.toList.length + ((joinT (y :: r)).length + 1) := by
      show (x.t.data.toList ++ 32 :: joinT (y :: r)).length = _
      simp
    rw [hl]
    simp only [List.length_cons] at ih ⊢
    omega
theorem lexAll_lie {s : ByteArray} (h : lexErr s = none) : LieFrom s.data.toList 0 (lexAll s) := by
  have h1 := lexErr_all.1 h
  have h2 : s.data.toList.length = s.size := rfl
  rw [lexAll_eq] at h1 ⊢
  have := lexL_lie s.data.toList (s.size + 1) 0 (Nat.zero_le _) (by omega)
  rw [List.drop_zero] at this
  exact this (by rw [List.all_eq_true] at h1; intro x hx; simpa using h1 x hx)
theorem back_ok {s : ByteArray} (h : lexErr s = none) : lexErr (joinB (lexAll s)) = none ∧ Alike (lexAll (joinB (lexAll s))) (lexAll s) := by
  have hg : ∀ x ∈ lexAll s, GoodT x := by
    intro x hx
    have h1 := lexErr_all.1 h
    rw [List.all_eq_true] at h1
    have h2 := h1 x hx
    rw [lexAll_eq] at hx
    exact lexL_good _ _ _ x hx (by simpa using h2)
  have hj : (joinB (lexAll s)).data.toList = joinT (lexAll s) := by unfold joinB; rw [joinL_eq]
  have hz : (joinB (lexAll s)).size = (joinT (lexAll s)).length := by rw [← hj]; rfl
  have hk := lexL_join (lexAll s) ((joinB (lexAll s)).size + 1) 0 hg (by omega)
  rw [← hj, ← lexAll_eq] at hk
  refine ⟨lexErr_all.2 ?_, hk.1⟩
  rw [List.all_eq_true]; intro x hx; simpa using hk.2 x hx
theorem err_kinds {s : ByteArray} {x : Tk} (h : lexErr s = some x) : x.e = 30 ∨ x.e = 31 ∨ x.e = 32 := by
  have hx := List.mem_of_find?_eq_some (show (lexAll s).find? _ = some x from h)
  have hne := (lexErr_ne h).1
  have hne : x.e ≠ 0 := by simpa using hne
  rw [lexAll_eq] at hx
  have key : ∀ (f : Nat) (l : List UInt8) (a : Nat), ∀ y ∈ lexL f l a, ∃ m, y.e = tE m := by
    intro f
    induction f with
    | zero => intro l a y hy; simp [lexL] at hy
    | succ f ih =>
      intro l a y hy
      unfold lexL at hy
      cases hsk : sk false l with
      | nil => rw [hsk] at hy; simp at hy
      | cons c r =>
        rw [hsk] at hy
        simp only [] at hy
        split at hy
        · rcases List.mem_cons.1 hy with rfl | hy
          · exact ⟨_, rfl⟩
          · exact ih _ _ y hy
        · rw [List.mem_singleton.1 hy]; exact ⟨_, rfl⟩
  obtain ⟨m, hm⟩ := key _ _ _ x hx
  rw [hm] at hne ⊢
  unfold tE wordE numE dirE sigE at hne ⊢
  split
  · rename_i h1; rw [if_pos h1] at hne; split at hne
    · exact absurd rfl hne
    · rename_i h2; rw [if_neg h2]; simp
  · rename_i h1; rw [if_neg h1] at hne
    split
    · rename_i h2; rw [if_pos h2] at hne; split at hne
      · exact absurd rfl hne
      · rename_i h3; rw [if_neg h3]; simp
    · rename_i h2; rw [if_neg h2] at hne
      split
      · rename_i h3; rw [if_pos h3] at hne; split at hne
        · exact absurd rfl hne
        · rename_i h4; rw [if_neg h4]; simp
      · rename_i h3; rw [if_neg h3] at hne; split at hne
        · rename_i h4; rw [if_pos h4]; simp
        · exact absurd rfl hne

set_option maxRecDepth 100000 in
set_option maxHeartbeats 4000000 in
theorem back_long (s : ByteArray) (w : World) (hs : s.size ≤ maxLen) (hE : ErrOk w) (hl : 4000 < s.size) :
    Calls Tryd.prog 4 #[.string s] w fun e w' => e = .returned (.bool true) ∧ Below w.heap.size w w' := by
  have hs' := hs; clear hs; unfold maxLen at hs'
  have HAW := Lib.hid (lexAwake_any w hE)
  clear hE
  go_enter Tryd.func4, Tryd.ntmps4
  go_wp2_with (go_at_call 7; refine HAW.out.mono ?_; clear HAW; rintro e w1 ⟨rfl, hb1⟩)
  go_ret
  exact ⟨rfl, hb1⟩

set_option maxRecDepth 100000 in
set_option maxHeartbeats 4000000 in
theorem back_err (s : ByteArray) (w : World) (hs : s.size ≤ 4000) (hE : ErrOk w) (x : Tk) (hx : lexErr s = some x) :
    Calls Tryd.prog 4 #[.string s] w fun e w' => e = .returned (.bool true) ∧ Below w.heap.size w w' := by
  have HAW := Lib.hid (lexAwake_any w hE)
  have HE := Lib.hid hE
  have hlt := lexAll_at (List.mem_of_find?_eq_some (show (lexAll s).find? _ = some x from hx))
  have HL1 := Lib.hid (fun W h => lex_err s W (by omega) h x hx)
  have hk := err_kinds hx
  obtain ⟨xa, hxa⟩ : ∃ xa, x.a = xa := ⟨_, rfl⟩
  obtain ⟨xe, hxe⟩ : ∃ xe, x.e = xe := ⟨_, rfl⟩
  rw [hxa] at HL1 hlt
  rw [hxe] at HL1 hk
  clear hE hx hxa hxe
  rcases hk with rfl | rfl | rfl
  all_goals
    go_enter Tryd.func4, Tryd.ntmps4
    go_wp2_with (go_at_call 7; refine HAW.out.mono ?_; clear HAW; rintro e w1 ⟨rfl, hb1⟩; have HB1 := Lib.hid hb1; clear hb1)
    refine (HL1.out w1 (HE.out.below HB1.out)).mono ?_
    rintro e w2 ⟨rfl, hb2⟩
    have HB2 := Lib.hid (HB1.out.trans (hb2.mono HB1.out.size))
    clear hb2
    go_wp2
    go_ret
    exact ⟨rfl, HB2.out⟩

set_option maxRecDepth 100000 in
set_option maxHeartbeats 8000000 in
theorem back_ok_any (s : ByteArray) (w : World) (hs : s.size ≤ 4000) (hE : ErrOk w) (hx : lexErr s = none) :
    Calls Tryd.prog 4 #[.string s] w fun e w' => e = .returned (.bool true) ∧ Below w.heap.size w w' := by
  have HAW := Lib.hid (lexAwake_any w hE)
  have HE := Lib.hid hE
  have HL1 := Lib.hid (fun W h => lex_okc s W (by omega) h hx)
  have hlie := lexAll_lie hx
  have hn := lexAll_le s
  have hjl := joinT_len _ _ _ hlie (Nat.zero_le _)
  have hsz : s.data.toList.length = s.size := rfl
  rw [hsz] at hjl
  obtain ⟨hj1, hj2⟩ := back_ok hx
  have hjz : (joinB (lexAll s)).size = (joinT (lexAll s)).length := by
    have hj : (joinB (lexAll s)).data.toList = joinT (lexAll s) := by unfold joinB; rw [joinL_eq]
    rw [← hj]; rfl
  have HL2 := Lib.hid (fun W h => lex_okc (joinB (lexAll s)) W (by omega) h hj1)
  have HJ := Lib.hid (show (joinL (lexAll s)).length ≤ 140737488355328 by rw [joinL_eq]; omega)
  obtain ⟨la, hla⟩ : ∃ la, lexAll s = la := ⟨_, rfl⟩
  obtain ⟨lb, hlb⟩ : ∃ lb, lexAll (joinB la) = lb := ⟨_, rfl⟩
  rw [hla] at HL1 hlie hn HL2 HJ hj2
  rw [hlb] at HL2 hj2
  have HLIE := Lib.hid hlie
  have HAL := Lib.hid hj2
  have hlen := hj2.len
  rw [hlen] at HL2
  have HLEN := Lib.hid hlen
  clear hE hx hlie hjl hj1 hj2 hjz hla hlb hlen hsz
  go_enter Tryd.func4, Tryd.ntmps4
  go_wp2_with (go_at_call 7; refine HAW.out.mono ?_; clear HAW; rintro e w1 ⟨rfl, hb1⟩; have HB1 := Lib.hid hb1; clear hb1)
  refine (HL1.out w1 (HE.out.below HB1.out)).mono ?_
  rintro e w2 ⟨pa, ca, rfl, hta, hb2, _⟩
  have HB2 := Lib.hid (HB1.out.trans (hb2.mono HB1.out.size))
  have HTA := Lib.hid hta
  clear hb2 hta HL1
  go_wp2_with fail
  refine (join_any la _ w2 HTA.out (by omega) HJ.out).mono ?_
  rintro e w3 ⟨rfl, hb3⟩
  have HTA3 := Lib.hid ((HTA.out.below hb3).mono hb3.size)
  have HB3 := Lib.hid (HB2.out.trans (hb3.mono HB2.out.size))
  clear hb3 HTA
  go_wp2_with fail
  refine (HL2.out w3 (HE.out.below HB3.out)).mono ?_
  rintro e w4 ⟨pb, cb, rfl, htb, hb4, _⟩
  have HTA4 := Lib.hid ((HTA3.out.below hb4).mono hb4.size)
  have HB4 := Lib.hid (HB3.out.trans (hb4.mono HB3.out.size))
  have HTB := Lib.hid (show IsToks w4.heap.size w4 (.slice pb la.length cb) lb from htb)
  clear hb4 htb HTA3 HL2
  go_wp2_with fail
  refine (alike_any la lb _ _ w4 HTA4.out HTB.out (by omega) (Eq.symm HAL.out)).mono ?_
  rintro e w5 ⟨rfl, hb5⟩
  have HB5 := Lib.hid hb5
  clear hb5
  go_wp2_with fail
  go_loopw [9, 10, 11] (fun f i _ wr => ∃ k fr : Nat, (k ≤ la.length ∧ fr ≤ s.size) ∧ i = .int .i64 k ∧ f = .int .i64 fr ∧ LieFrom s.data.toList fr (la.drop k) ∧ Below w4.heap.size w4 wr) (fun _ i _ _ => la.length - (intOf i).toNat)
  case atStart => exact ⟨0, 0, ⟨Nat.zero_le _, Nat.zero_le _⟩, rfl, rfl, HLIE.out, HB5.out⟩
  case round =>
    obtain ⟨k, fr, ⟨hk, hfr⟩, rfl, rfl, hl, hbr⟩ := hrel
    have hsl : s.data.toList.length = s.size := rfl
    by_cases hlt : k < la.length
    · obtain ⟨x, hx⟩ : ∃ x, la[k]? = some x := ⟨la[k], List.getElem?_eq_getElem hlt⟩
      have hdk : la.drop k = x :: la.drop (k + 1) := by
        rw [List.drop_eq_getElem_cons hlt]
        have := List.getElem?_eq_getElem hlt
        rw [hx] at this
        cases this; rfl
      rw [hdk] at hl
      obtain ⟨q1, q2, q3, q4, q5⟩ := hl
      obtain ⟨p2, c2, hv2, hr2⟩ := HTA4.out
      obtain ⟨bt, o2, hp2', hbl2, hc2⟩ := hr2 (by intro e; rw [e] at hlt; simp at hlt)
      cases hv2; subst hp2'
      have gt := (hbr.cell (p := ⟨bt, o2 + k * 3 + 1, none⟩) hbl2).trans (hc2 k x hx).2.1
      have ga := (hbr.cell (p := ⟨bt, o2 + k * 3 + 2, none⟩) hbl2).trans (hc2 k x hx).2.2
      obtain ⟨xa, hxa⟩ : ∃ xa, x.a = xa := ⟨_, rfl⟩
      obtain ⟨xt, hxt⟩ : ∃ xt, x.t = xt := ⟨_, rfl⟩
      rw [hxa] at ga q1 q2 q3 q4 q5
      rw [hxt] at gt q2 q3 q5
      have hts : xt.data.toList.length = xt.size := rfl
      rw [hts] at q2 q3 q5
      rw [hsl] at q2
      have hext : s.extract xa (xa + xt.size) = xt := by
        apply ByteArray.ext
        apply Array.toList_inj.1
        rw [ext_list, Nat.add_sub_cancel_left]; exact q3
      have hemp : emp false (s.extract fr xa).data.toList = true := by rw [ext_list]; exact q4
      have HEM := Lib.hid (fun W => empty_any (s.extract fr xa) W (ext_le s _ _ (by unfold maxLen; omega)) hemp)
      have HQ5 := Lib.hid q5
      have HBR := Lib.hid hbr
      have HLE := Lib.hid q2
      have i1 : (0 : Int) ≤ (k : Int) := by omega
      have i2 : (k : Int) < (la.length : Int) := by omega
      have n2 : ((s.extract xa (xa + xt.size)).toList == xt.toList) = true := by rw [hext]; simp
      have n3 : ((s.extract xa (xa + xt.size)).toList != xt.toList) = false := by rw [hext]; simp
      have d1 : decide (xa < fr) = false := decide_eq_false (by omega)
      have d2 : decide ((s.size : Int) < (xa : Int) + (xt.size : Int)) = false := decide_eq_false (by omega)
      have d3 : decide (s.size < xa + xt.size) = false := decide_eq_false (by omega)
      have b1 : (xa : Int) + (xt.size : Int) ≤ (s.size : Int) := by omega
      have b2 : xa ≤ s.size := by omega
      clear hext hbr q3 q4 q5 hc2 hr2 hdk hx hxa hxt hts hsl hemp hbl2
      have hw : IntKind.i64.wrap ((xa : Int) + (xt.size : Int)) = (xa : Int) + (xt.size : Int) := IntWalk.i64_in _ (by omega)
      go_wp2_with fail
      go_quiet (fail)
      clear hw
      go_wp2_with fail
      generalize hW9 : World.drewN _ _ = W9
      have ga9 : W9.cell? ⟨bt, o2 + k * 3 + 2, none⟩ = some (.int .i64 xa) := by rw [← hW9]; exact ga
      have gt9 : W9.cell? ⟨bt, o2 + k * 3 + 1, none⟩ = some (.string xt) := by rw [← hW9]; exact gt
      have HB9 : Hid (Below w4.heap.size w4 W9) := Lib.hid (by
        have h := HBR.out
        rw [← hW9]; exact ⟨h.os, h.tape, h.output, h.size, h.block⟩)
      clear hW9 ga gt
      go_quiet ((go_at_call 13; exact Calls.quiet_of_same (HEM.out _)))
      go_wp2_with fail
      go_roundw
      case rel =>
        have h := HB9.out
        exact ⟨k + 1, xa + xt.size, ⟨by omega, HLE.out⟩, by go_num, by go_num, HQ5.out, ⟨h.os, h.tape, h.output, h.size, h.block⟩⟩
      case measure => simp [intOf]; omega
    · have hkk : k = la.length := by omega
      rw [hkk, List.drop_length] at hl
      have hemp : emp false (s.extract fr s.size).data.toList = true := by
        rw [ext_list, List.take_of_length_le (by rw [List.length_drop]; exact Nat.le_refl _)]; exact hl
      have HEM := Lib.hid (fun W => empty_any (s.extract fr s.size) W (ext_le s _ _ (by unfold maxLen; omega)) hemp)
      have HBR := Lib.hid hbr
      clear hbr hl hemp
      go_wp2_with (go_at_call 13; refine (HEM.out _).mono ?_; rintro e w' ⟨rfl, rfl⟩)
      go_ret
      exact ⟨rfl, HB4.out.trans (HBR.out.mono HB4.out.size)⟩

/-- The law. -/
theorem back_any (s : ByteArray) (w : World) (hs : s.size ≤ maxLen) (hE : ErrOk w) :
    Calls Tryd.prog 4 #[.string s] w fun e w' => e = .returned (.bool true) ∧ Below w.heap.size w w' := by
  by_cases hl : 4000 < s.size
  · exact back_long s w hs hE hl
  · cases hx : lexErr s with
    | some x => exact back_err s w (by omega) hE x hx
    | none => exact back_ok_any s w (by omega) hE hx
end Go.Proofs.YtpnkmpmgadciaaaDoor
