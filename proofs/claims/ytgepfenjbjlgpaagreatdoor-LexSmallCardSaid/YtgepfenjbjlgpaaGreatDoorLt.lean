/- Package lex: words, directives, signs. -/
import Derived.Test.YtgepfenjbjlgpaaGreatDoorLk
import Derived.Test.YtgepfenjbjlgpaaGreatDoorSy
import Derived.Lib.IndexAny
import Derived.Lib.AtoiErrMem
import Derived.Lib.ParseIntB
namespace Go.Proofs.YtgepfenjbjlgpaaGreatDoor
open Go.RowKit

theorem ret_two {a a' b b' : Int} {k k' : IntKind} (h : a = a') (h' : b = b') : Ending.returned (.tuple #[.int k a, .int k' b]) = Ending.returned (.tuple #[.int k a', .int k' b']) := by rw [h, h']

def dirB (s : ByteArray) : Bool := s.toList == [35, 99, 111, 110, 115, 116] || s.toList == [35, 115, 104, 111, 119] || s.toList == [35, 109, 105, 110, 105, 109, 105, 122, 101] || s.toList == [35, 99, 111, 117, 110, 116] || s.toList == [35, 115, 117, 109]
def dirK (s : ByteArray) : Int := if dirB s then 5 else 0
def dirE (s : ByteArray) : Int := if dirB s then 0 else 31

set_option maxHeartbeats 1000000 in
theorem directive_any (s : ByteArray) (w : World) :
    Calls Tryz.prog 69 #[.string s] w fun e w' => e = .returned (.tuple #[.int .u8 (dirK s), .int .i64 (dirE s)]) ∧ w = w' := by
  have HD : dirB s = (s.toList == [35, 99, 111, 110, 115, 116] || s.toList == [35, 115, 104, 111, 119] || s.toList == [35, 109, 105, 110, 105, 109, 105, 122, 101] || s.toList == [35, 99, 111, 117, 110, 116] || s.toList == [35, 115, 117, 109]) := rfl
  cases h1 : (s.toList == [35, 99, 111, 110, 115, 116]) <;> cases h2 : (s.toList == [35, 115, 104, 111, 119]) <;> cases h3 : (s.toList == [35, 109, 105, 110, 105, 109, 105, 122, 101]) <;> cases h4 : (s.toList == [35, 99, 111, 117, 110, 116]) <;> cases h5 : (s.toList == [35, 115, 117, 109])
  all_goals
    have HE := HD
    rw [h1, h2, h3, h4, h5] at HE
    simp only [Bool.or_false, Bool.or_true] at HE
    have HF := Lib.hid HE
    clear HE HD
    go_enter Tryz.func69, Tryz.ntmps69
    go_wp2
    go_ret2
    exact ⟨ret_two (by unfold dirK; rw [HF.out]; rfl) (by unfold dirE; rw [HF.out]; rfl), rfl⟩

def sigK (s : ByteArray) : Int := if s.toList.isEmpty then 0 else 6
def sigE (s : ByteArray) : Int := if s.toList.isEmpty then 30 else 0
set_option maxHeartbeats 1000000 in
theorem sign_any (s : ByteArray) (w : World) :
    Calls Tryz.prog 71 #[.string s] w fun e w' => e = .returned (.tuple #[.int .u8 (sigK s), .int .i64 (sigE s)]) ∧ w = w' := by
  cases h1 : s.toList.isEmpty
  · have HF := Lib.hid h1
    go_enter Tryz.func71, Tryz.ntmps71
    go_wp2
    go_ret2
    exact ⟨ret_two (by unfold sigK; rw [HF.out]; rfl) (by unfold sigE; rw [HF.out]; rfl), rfl⟩
  · have HF := Lib.hid h1
    go_enter Tryz.func71, Tryz.ntmps71
    go_wp2
    go_ret2
    exact ⟨ret_two (by unfold sigK; rw [HF.out]; rfl) (by unfold sigE; rw [HF.out]; rfl), rfl⟩

/-- The signs of two bytes. -/
def twoB (l : List UInt8) : Bool := l == [58, 45] || l == [58, 126] || l == [46, 46] || l == [33, 61] || l == [60, 61] || l == [62, 61]
def oneL : List UInt8 := [58, 46, 44, 59, 124, 40, 41, 123, 125, 91, 93, 61, 60, 62, 43, 45, 42, 47, 92, 64]


def signL (l : List UInt8) : Nat := if twoB (l.take 2) then 2 else match l with | [] => 0 | c :: _ => if oneL.contains c then 1 else 0

theorem toList_data (s : ByteArray) : s.toList = s.data.toList := Lib.toList_data s

theorem sign_two {s : ByteArray} (h : twoB (s.extract 0 2).toList = true) : (signL s.data.toList : Int) = 2 := by
  have e : (s.extract 0 2).toList = s.data.toList.take 2 := by
    rw [Lib.extract_toList]; rfl
  rw [e] at h
  unfold signL; rw [if_pos h]; rfl
theorem sign_not {s : ByteArray} (h : twoB (s.extract 0 2).toList = false) (h0 : 0 < s.size) : (signL s.data.toList : Int) = if oneL.contains s[0] then 1 else 0 := by
  have e : (s.extract 0 2).toList = s.data.toList.take 2 := by
    rw [Lib.extract_toList]; rfl
  rw [e] at h
  unfold signL; rw [if_neg (by rw [h]; simp)]
  have hl : s.data.toList = s[0] :: s.data.toList.drop 1 := by
    have := List.drop_eq_getElem_cons (l := s.data.toList) (i := 0) (by simpa using h0)
    exact this
  rw [hl]; simp only []; split <;> rfl

theorem short_ne {l : List UInt8} {a b : UInt8} (h : l.length ≤ 1) : (l == [a, b]) = false := by
  rcases l with _ | ⟨c, _ | ⟨d, r⟩⟩
  · rfl
  · simp
  · simp at h

set_option maxHeartbeats 2000000 in
theorem signLength_any (s : ByteArray) (w : World) (hs : s.size ≤ maxLen) (h0 : 0 < s.size) :
    Calls Tryz.prog 70 #[.string s] w fun e w' => e = .returned (.int .i64 (signL s.data.toList : Nat)) ∧ w = w' := by
  unfold maxLen at hs
  have HI := Lib.hid (fun w => Tryz.strings_IndexByte ⟨oneL.toArray⟩ (s[0].toNat : Int) w)
  have hc : ((s[0].toNat : Int)).toNat.toUInt8 = s[0] := by simp
  rw [hc] at HI
  clear hc
  have hin : oneL.contains s[0] = decide (0 ≤ Lib.indexByte oneL s[0]) := Lib.contains_iff_indexByte oneL s[0]
  have hsn := fun h => sign_not (s := s) h h0
  rw [hin] at hsn
  obtain ⟨ix, hix⟩ : ∃ ix, Lib.indexByte oneL s[0] = ix := ⟨_, rfl⟩
  have HI2 : Hid (∀ w : World, Calls Tryz.prog 89 #[.string ⟨oneL.toArray⟩, .int .u8 (s[0].toNat : Int)] w fun e w' => e = .returned (.int .i64 ix) ∧ w' = w) := Lib.hid (by rw [← hix]; exact HI.out)
  rw [hix] at hsn
  have HN := Lib.hid hsn
  have HT := Lib.hid (@sign_two s)
  clear hin hsn HI hix
  by_cases hsz : 2 ≤ s.size
  · have hmin : min (2 : Int) (s.size : Int) = 2 := by omega
    have HD : twoB (s.extract 0 2).toList = ((s.extract 0 2).toList == [58, 45] || (s.extract 0 2).toList == [58, 126] || (s.extract 0 2).toList == [46, 46] || (s.extract 0 2).toList == [33, 61] || (s.extract 0 2).toList == [60, 61] || (s.extract 0 2).toList == [62, 61]) := rfl
    cases h2 : ((s.extract 0 2).toList == [58, 45])
    · skip
      cases h3 : ((s.extract 0 2).toList == [58, 126])
      · skip
        cases h4 : ((s.extract 0 2).toList == [46, 46])
        · skip
          cases h5 : ((s.extract 0 2).toList == [33, 61])
          · skip
            cases h6 : ((s.extract 0 2).toList == [60, 61])
            · skip
              cases h7 : ((s.extract 0 2).toList == [62, 61])
              · skip
                have HF := Lib.hid (HN.out (by rw [HD, h2, h3, h4, h5, h6, h7]; rfl))
                clear HD HT HN
                by_cases hx : (0 : Int) ≤ ix
                all_goals
                  have HX := Lib.hid hx
                  go_enter Tryz.func70, Tryz.ntmps70
                  go_wp2_with (go_at_call 89; refine (HI2.out _).mono ?_; rintro e w' ⟨rfl, rfl⟩)
                  go_ret
                  exact ⟨by rw [HF.out]; have := HX.out; simp [this], rfl⟩
              · have HF := Lib.hid (HT.out (by rw [HD, h2, h3, h4, h5, h6, h7]; rfl))
                clear HD HT HN
                go_enter Tryz.func70, Tryz.ntmps70
                go_wp2
                go_ret
                exact ⟨by rw [HF.out]; rfl, rfl⟩
            · have HF := Lib.hid (HT.out (by rw [HD, h2, h3, h4, h5, h6]; rfl))
              clear HD HT HN
              go_enter Tryz.func70, Tryz.ntmps70
              go_wp2
              go_ret
              exact ⟨by rw [HF.out]; rfl, rfl⟩
          · have HF := Lib.hid (HT.out (by rw [HD, h2, h3, h4, h5]; rfl))
            clear HD HT HN
            go_enter Tryz.func70, Tryz.ntmps70
            go_wp2
            go_ret
            exact ⟨by rw [HF.out]; rfl, rfl⟩
        · have HF := Lib.hid (HT.out (by rw [HD, h2, h3, h4]; rfl))
          clear HD HT HN
          go_enter Tryz.func70, Tryz.ntmps70
          go_wp2
          go_ret
          exact ⟨by rw [HF.out]; rfl, rfl⟩
      · have HF := Lib.hid (HT.out (by rw [HD, h2, h3]; rfl))
        clear HD HT HN
        go_enter Tryz.func70, Tryz.ntmps70
        go_wp2
        go_ret
        exact ⟨by rw [HF.out]; rfl, rfl⟩
    · have HF := Lib.hid (HT.out (by rw [HD, h2]; rfl))
      clear HD HT HN
      go_enter Tryz.func70, Tryz.ntmps70
      go_wp2
      go_ret
      exact ⟨by rw [HF.out]; rfl, rfl⟩
  · have h1 : s.size = 1 := by omega
    have hl : (s.extract 0 2).toList.length ≤ 1 := by rw [toList_data]; show (s.extract 0 2).data.toList.length ≤ 1; rw [Array.length_toList]; show (s.extract 0 2).size ≤ 1; rw [ByteArray.size_extract]; omega
    have hl1 : (s.extract 0 1).toList.length ≤ 1 := by rw [toList_data]; show (s.extract 0 1).data.toList.length ≤ 1; rw [Array.length_toList]; show (s.extract 0 1).size ≤ 1; rw [ByteArray.size_extract]; omega
    have HF := Lib.hid (HN.out (by unfold twoB; simp only [short_ne hl]; rfl))
    have e1 := fun a b => @short_ne _ a b hl1
    have f1 := e1 58 45
    have f2 := e1 58 126
    have f3 := e1 46 46
    have f4 := e1 33 61
    have f5 := e1 60 61
    have f6 := e1 62 61
    have hmin : min (2 : Int) (s.size : Int) = 1 := by omega
    clear HT HN hl hl1 e1 h1 hsz
    by_cases hx : (0 : Int) ≤ ix
    all_goals
      have HX := Lib.hid hx
      go_enter Tryz.func70, Tryz.ntmps70
      go_wp2_with (go_at_call 89; refine (HI2.out _).mono ?_; rintro e w' ⟨rfl, rfl⟩)
      go_ret
      exact ⟨by rw [HF.out]; have := HX.out; simp [this], rfl⟩

def notB (s : ByteArray) : Bool := s.toList == [110, 111, 116]
def wordK (s : ByteArray) : Int := if notB s then 4 else if symbolB s then 1 else if variableB s then 2 else 0
def wordE (s : ByteArray) : Int := if notB s || symbolB s || variableB s then 0 else 31
set_option maxHeartbeats 1000000 in
theorem word_lex (s : ByteArray) (w : World) (hs : s.size ≤ maxLen) :
    Calls Tryz.prog 66 #[.string s] w fun e w' => e = .returned (.tuple #[.int .u8 (wordK s), .int .i64 (wordE s)]) ∧ w = w' := by
  have HS := Lib.hid (fun w => symbol_any s w hs)
  have HV := Lib.hid (fun w => variable_any s w hs)
  cases h1 : (s.toList == [110, 111, 116]) <;> cases h2 : symbolB s <;> cases h3 : variableB s
  all_goals
    have HN := Lib.hid (show notB s = _ from h1)
    have H2 := Lib.hid h2
    have H3 := Lib.hid h3
    rw [h2] at HS
    rw [h3] at HV
    clear h2 h3
    go_enter Tryz.func66, Tryz.ntmps66
    go_wp2_with (first
      | (go_at_call 10; refine (HS.out _).mono ?_; rintro e w' ⟨rfl, rfl⟩)
      | (go_at_call 11; refine (HV.out _).mono ?_; rintro e w' ⟨rfl, rfl⟩))
    go_ret2
    exact ⟨ret_two (by unfold wordK; rw [HN.out, H2.out, H3.out]; rfl) (by unfold wordE; rw [HN.out, H2.out, H3.out]; rfl), rfl⟩

/-- The digits are a number. -/
def numB (s : ByteArray) : Bool := match Lib.parseIntB 64 s.data.toList with
  | .ok n => decide (n ≤ 2147483647) && !(s.data.toList.headD 0 == 48 && decide (1 < s.size))
  | _ => false
def numK (s : ByteArray) : Int := if numB s then 3 else 0
def numE (s : ByteArray) : Int := if numB s then 0 else 32

theorem in4 {c : UInt8} (h : inB 4 c.toNat = true) : 48 ≤ c.toNat ∧ c.toNat ≤ 57 := by
  unfold inB clsI at h
  split at h
  · cases h
  · split at h
    · cases h
    · split at h
      · omega
      · split at h
        · cases h
        · split at h
          · cases h
          · split at h <;> cases h
theorem uint_digits : ∀ (l : List UInt8) (M acc : Nat), (∀ c ∈ l, inB 4 c.toNat = true) → (∃ u, Lib.parseUintM M acc l = .ok u) ∨ Lib.parseUintM M acc l = .range
  | [], _, _, _ => by simp [Lib.parseUintM]
  | c :: r, M, acc, h => by
    have hc := in4 (h c (List.mem_cons_self ..))
    simp only [Lib.parseUintM]
    rw [if_pos hc]
    split
    · exact .inr rfl
    · split
      · exact .inr rfl
      · exact uint_digits r M _ fun x hx => h x (List.mem_cons_of_mem _ hx)
theorem int_digits {l : List UInt8} (h0 : l ≠ []) (h : ∀ c ∈ l, inB 4 c.toNat = true) : (∃ v, Lib.parseIntB 64 l = .ok v) ∨ Lib.parseIntB 64 l = .range := by
  cases l with
  | nil => exact absurd rfl h0
  | cons c r =>
    have hc := in4 (h c (List.mem_cons_self ..))
    unfold Lib.parseIntB Lib.parseUintB
    simp only [if_neg (show ¬ (c.toNat = 43 ∨ c.toNat = 45) by omega), if_neg (show ¬ (c :: r) = [] by simp)]
    rcases uint_digits (c :: r) (2 ^ 64 - 1) 0 h with ⟨u, hu⟩ | hu
    · rw [hu]; simp only []; split <;> (try split) <;> simp
    · rw [hu]; exact .inr rfl

/-- The sentinel of ranges is an error. -/
def ErrOk (w : World) : Prop := ∃ te pe, w.cell? ⟨5, 0, none⟩ = some (.iface te pe)

set_option maxHeartbeats 2000000 in
theorem number_any (s : ByteArray) (w : World) (hs : s.size ≤ 281474976710656) (h0 : 0 < s.size) (hd : ∀ c ∈ s.data.toList, inB 4 c.toNat = true) (he : ErrOk w) :
    Calls Tryz.prog 67 #[.string s] w fun e w' => e = .returned (.tuple #[.int .u8 (numK s), .int .i64 (numE s)]) ∧ Below w.heap.size w w' := by
  have hne : s.data.toList ≠ [] := by intro e; have : s.data.toList.length = s.size := rfl; rw [e] at this; simp at this; omega
  have hns := int_digits hne hd
  have hB : numB s = (match Lib.parseIntB 64 s.data.toList with | .ok n => decide (n ≤ 2147483647) && !(s.data.toList.headD 0 == 48 && decide (1 < s.size)) | _ => false) := rfl
  have hh : s.data.toList.headD 0 = s[0] := by
    have := List.drop_eq_getElem_cons (l := s.data.toList) (i := 0) (by simpa using h0)
    rw [List.drop_zero] at this
    rw [this]; rfl
  rw [hh] at hB
  clear hne hh
  rcases hns with ⟨v, hp⟩ | hp
  rotate_left
  · rw [hp] at hB
    obtain ⟨te, pe, he⟩ := he
    have HP := Lib.hid (Tryz.strconv_ParseInt_10_at64_range s hs hp _ w he (.inr ⟨_, _, rfl⟩))
    have HF := Lib.hid (show numB s = false from hB)
    clear hp hB hd
    go_enter Tryz.func67, Tryz.ntmps67
    go_wp2_with (go_at_call 88; refine HP.out.mono ?_; rintro e w1 ⟨N, rfl, _, _, hb⟩)
    go_ret2
    exact ⟨ret_two (by unfold numK; rw [HF.out]; rfl) (by unfold numE; rw [HF.out]; rfl), hb⟩
  · rw [hp] at hB
    have hp1 := Tryz.strconv_ParseInt_10_at64_ok s (by omega) v hp w
    have HP := Lib.hid (hp1.mono (R' := fun e w' => e = .returned (.tuple #[.int .i64 v, .nilIface]) ∧ Below w.heap.size w w') fun e w' h => ⟨h.1, by
      rcases h.2 with h2 | ⟨t, h2⟩
      · rw [h2]; exact Below.refl _ _
      · rw [h2]; exact Lib.bytesWorld_below _ _ _⟩)
    have HB := Lib.hid (show numB s = (decide (v ≤ 2147483647) && !(s[0] == 48 && decide (1 < s.size))) from hB)
    clear hp hB hd he hp1
    by_cases hv : v ≤ 2147483647
    · have hv' : decide (2147483647 < v) = false := by simpa using hv
      by_cases h8 : s[0] = 48
      · have h9 : ((s[0].toNat : Int) == 48) = true := by rw [h8]; rfl
        by_cases h1 : 1 < s.size
        all_goals
          have HF := HB.out
          rw [h8, decide_eq_true hv] at HF
          first | rw [decide_eq_true h1] at HF | rw [decide_eq_false h1] at HF
          have HF := Lib.hid HF
          clear HB h8
          go_enter Tryz.func67, Tryz.ntmps67
          go_wp2_with (go_at_call 88; refine HP.out.mono ?_; rintro e w1 ⟨rfl, hb⟩)
          go_ret2
          exact ⟨ret_two (by unfold numK; rw [HF.out]; rfl) (by unfold numE; rw [HF.out]; rfl), hb⟩
      · have h9 : ((s[0].toNat : Int) == 48) = false := by
          rw [beq_eq_false_iff_ne]; intro e; apply h8
          apply UInt8.toNat_inj.1; show s[0].toNat = 48; omega
        have HF := HB.out
        rw [show (s[0] == 48) = false from by simpa using h8, decide_eq_true hv] at HF
        have HF := Lib.hid HF
        clear HB h8
        go_enter Tryz.func67, Tryz.ntmps67
        go_wp2_with (go_at_call 88; refine HP.out.mono ?_; rintro e w1 ⟨rfl, hb⟩)
        go_ret2
        exact ⟨ret_two (by unfold numK; rw [HF.out]; rfl) (by unfold numE; rw [HF.out]; rfl), hb⟩
    · have HF := HB.out
      rw [decide_eq_false hv] at HF
      have HF := Lib.hid HF
      clear HB
      go_enter Tryz.func67, Tryz.ntmps67
      go_wp2_with (go_at_call 88; refine HP.out.mono ?_; rintro e w1 ⟨rfl, hb⟩)
      go_ret2
      exact ⟨ret_two (by unfold numK; rw [HF.out]; rfl) (by unfold numE; rw [HF.out]; rfl), hb⟩
end Go.Proofs.YtgepfenjbjlgpaaGreatDoor
