/- Texts that belong together: Terms as plain data, and what it means that memory holds one. Package term, names: the classes of bytes; all. Package term, names: Symbol and Variable. Tokens of a source: plain mathematics. The reference model: names. The reference model: Variable. The reference model of lex: its helpers. -/
import Derived.Test.YtlmdhlckgbgfhaaGreatDoorProg
import Derived.Test.YtlmdhlckgbgfhaaGreatDoorShelf
import Derived.Below
import Derived.Carry
import Derived.Lib.Hide
import Derived.WalkKit
import Derived.WalkSpells
import Derived.WalkLawsBesides
import Derived.Deep.QuietTactic
import Derived.BigQuiet
import Derived.Laws.AppendOwn
import Derived.Deep.RegionWith
import Derived.RangeFuncBox
import Derived.Lib.IndexAny
import Derived.Lib.AtoiErrMem
import Derived.Lib.ParseIntB
import Derived.RangeFuncNested
import Derived.RangeFuncCalls
import Derived.RangeFuncLeaves
import Derived.Shelf.Abstract
import Derived.OwnWalkIn
import Derived.TacticsInMore
import Derived.LoopNIn
import Derived.LoopIn
import Derived.Maps.AppendAt
import Derived.ProofKit
import Derived.Shelf.RegionOpen
set_option maxRecDepth 100000
set_option maxHeartbeats 400000000
namespace Go.Proofs.YtlmdhlckgbgfhaaGreatDoor
theorem Hi {p : Prop} (h : p) : Go.RowKit.Hid p := Lib.hid h
end Go.Proofs.YtlmdhlckgbgfhaaGreatDoor
namespace Go.Proofs.YtlmdhlckgbgfhaaGreatDoor
open Go.RowKit

theorem gL {α : Type} {a : Array α} {i : Nat} {x : α} (h : a[i]? = some x) : i < a.size := (Array.getElem?_eq_some_iff.1 h).1
theorem exV {α : Type} (v : α) : ∃ u, v = u := ⟨v, rfl⟩
theorem bool_of {t : Value} {x : Bool} (_ : t = .bool x) : x = true ∨ x = false := Bool.eq_false_or_eq_true x
theorem bR {n : Nat} {w : World} : Below n w w := Below.refl n w
inductive Tm where
 | mk (k : Int) (n : Int) (s : ByteArray) (args : List Tm)

def Tm.kind : Tm → Int | .mk k _ _ _ => k
def Tm.num : Tm → Int | .mk _ n _ _ => n
def Tm.name : Tm → ByteArray | .mk _ _ s _ => s
def Tm.args : Tm → List Tm | .mk _ _ _ l => l

mutual
theorem Tm.ind {P : Tm → Prop} (h : ∀ k n s args, (∀ t ∈ args, P t) → P (.mk k n s args)) : ∀ t, P t
 | .mk k n s args => h k n s args (Tm.indL h args)
theorem Tm.indL {P : Tm → Prop} (h : ∀ k n s args, (∀ t ∈ args, P t) → P (.mk k n s args)) : ∀ ts : List Tm, ∀ t ∈ ts, P t
 | [] => fun _ ht => by cases ht
 | a :: ts => List.forall_mem_cons.2 ⟨Tm.ind h a, Tm.indL h ts⟩
end
def I64 (n : Int) : Prop := (Lit.int .i64 n).wf = true

mutual
def IsTm (B : Nat) (w : World) (c0 c1 c2 c3 : Value) : Tm → Prop
 | .mk k n s args => c0 = .int .u8 k ∧ (0 ≤ k ∧ k ≤ 255) ∧ c1 = .int .i64 n ∧ I64 n ∧ c2 = .string s ∧ s.size ≤ maxLen ∧
     ∃ (a : Option Addr) (cap : Nat), c3 = .slice a args.length cap ∧ args.length ≤ maxLen ∧ (args ≠ [] → ∃ b off, a = some ⟨b, off, none⟩ ∧ b < B ∧ IsTms B w b off args)
def IsTms (B : Nat) (w : World) (b off : Nat) : List Tm → Prop
 | [] => True
 | t :: ts => ∃ c0 c1 c2 c3, w.cell? ⟨b, off, none⟩ = some c0 ∧ w.cell? ⟨b, off + 1, none⟩ = some c1 ∧ w.cell? ⟨b, off + 2, none⟩ = some c2 ∧ w.cell? ⟨b, off + 3, none⟩ = some c3 ∧
     IsTm B w c0 c1 c2 c3 t ∧ IsTms B w b (off + 4) ts
end
mutual
theorem IsTm.below {B : Nat} {w w' : World} (h : Below B w w') {c0 c1 c2 c3 : Value} : ∀ {t : Tm}, IsTm B w c0 c1 c2 c3 t → IsTm B w' c0 c1 c2 c3 t
 | .mk _ _ _ args, ht => by
   simp only [IsTm] at ht ⊢
   obtain ⟨h0, hk, h1, hn, h2, hs, a, cap, h3, hl, hr⟩ := ht
   refine ⟨h0, hk, h1, hn, h2, hs, a, cap, h3, hl, fun hne => ?_⟩
   obtain ⟨b, off, ha, hb, hi⟩ := hr hne
   exact ⟨b, off, ha, hb, IsTms.below h hb hi⟩
theorem IsTms.below {B : Nat} {w w' : World} (h : Below B w w') {b off : Nat} (hb : b < B) : ∀ {ts : List Tm}, IsTms B w b off ts → IsTms B w' b off ts
 | [], _ => by simp only [IsTms]
 | t :: ts, ht => by
   simp only [IsTms] at ht ⊢
   obtain ⟨c0, c1, c2, c3, h0, h1, h2, h3, hi, hr⟩ := ht
   exact ⟨c0, c1, c2, c3, (h.cell (p := ⟨b, off, none⟩) hb).trans h0, (h.cell (p := ⟨b, off + 1, none⟩) hb).trans h1, (h.cell (p := ⟨b, off + 2, none⟩) hb).trans h2,
     (h.cell (p := ⟨b, off + 3, none⟩) hb).trans h3, IsTm.below h hi, IsTms.below h hb hr⟩
end
mutual
theorem IsTm.mono {B B' : Nat} (hB : B ≤ B') {w : World} {c0 c1 c2 c3 : Value} : ∀ {t : Tm}, IsTm B w c0 c1 c2 c3 t → IsTm B' w c0 c1 c2 c3 t
 | .mk _ _ _ args, ht => by
   simp only [IsTm] at ht ⊢
   obtain ⟨h0, hk, h1, hn, h2, hs, a, cap, h3, hl, hr⟩ := ht
   refine ⟨h0, hk, h1, hn, h2, hs, a, cap, h3, hl, fun hne => ?_⟩
   obtain ⟨b, off, ha, hb, hi⟩ := hr hne
   exact ⟨b, off, ha, by omega, IsTms.mono hB hi⟩
theorem IsTms.mono {B B' : Nat} (hB : B ≤ B') {w : World} {b off : Nat} : ∀ {ts : List Tm}, IsTms B w b off ts → IsTms B' w b off ts
 | [], _ => by simp only [IsTms]
 | t :: ts, ht => by
   simp only [IsTms] at ht ⊢
   obtain ⟨c0, c1, c2, c3, h0, h1, h2, h3, hi, hr⟩ := ht
   exact ⟨c0, c1, c2, c3, h0, h1, h2, h3, IsTm.mono hB hi, IsTms.mono hB hr⟩
end
theorem IsTms.at {B : Nat} {w : World} {b : Nat} : ∀ {ts : List Tm} {off : Nat}, IsTms B w b off ts → ∀ (i : Nat) (hi : i < ts.length),
   ∃ c0 c1 c2 c3, w.cell? ⟨b, off + i * 4, none⟩ = some c0 ∧ w.cell? ⟨b, off + i * 4 + 1, none⟩ = some c1 ∧ w.cell? ⟨b, off + i * 4 + 2, none⟩ = some c2 ∧ w.cell? ⟨b, off + i * 4 + 3, none⟩ = some c3 ∧
     IsTm B w c0 c1 c2 c3 ts[i]
 | [], _, _, i, hi => absurd hi (by simp)
 | t :: ts, off, ht, i, hi => by
   simp only [IsTms] at ht
   obtain ⟨c0, c1, c2, c3, h0, h1, h2, h3, hc, hr⟩ := ht
   cases i with
   | zero => exact ⟨c0, c1, c2, c3, h0, h1, h2, h3, hc⟩
   | succ i =>
     have e : off + (i + 1) * 4 = off + 4 + i * 4 := by omega
     rw [e]
     exact IsTms.at hr i (by simpa using hi)

theorem cells_at {W : World} {b : Nat} {cs : Array Value} {t : TypeId} {f : Nat × Nat} (h : W.heap[b]? = some (.cells cs t f)) (i : Nat) (v : Value) (hv : cs[i]? = some v) : W.cell? ⟨b, i, none⟩ = some v := by
 simp [World.cell?, h, hv]

mutual
def Tm.nodes (l : Nat) : Tm → List (Tm × Nat)
 | .mk k n s args => (.mk k n s args, l) :: Tm.nodesL (l + 1) args
def Tm.nodesL (l : Nat) : List Tm → List (Tm × Nat)
 | [] => []
 | t :: ts => Tm.nodes l t ++ Tm.nodesL l ts
end
mutual
def Tm.depth : Tm → Nat
 | .mk _ _ _ args => Tm.depthL args + 1
def Tm.depthL : List Tm → Nat
 | [] => 0
 | t :: ts => max (Tm.depth t) (Tm.depthL ts)
end
mutual
def Tm.count : Tm → Nat
 | .mk _ _ _ args => Tm.countL args + 1
def Tm.countL : List Tm → Nat
 | [] => 0
 | t :: ts => Tm.count t + Tm.countL ts
end
theorem Tm.depthL_mem : ∀ {ts : List Tm} {t : Tm}, t ∈ ts → t.depth ≤ Tm.depthL ts
 | a :: ts, t, h => by
   simp only [Tm.depthL]
   rcases List.mem_cons.1 h with rfl | h
   · omega
   · have := Tm.depthL_mem h; omega

mutual
theorem Tm.depth_le_count : ∀ t : Tm, t.depth ≤ t.count
 | .mk _ _ _ args => by
   simp only [Tm.depth, Tm.count]
   have := Tm.depthL_le_countL args; omega
theorem Tm.depthL_le_countL : ∀ ts : List Tm, Tm.depthL ts ≤ Tm.countL ts
 | [] => by simp only [Tm.depthL, Tm.countL]; omega
 | t :: ts => by
   simp only [Tm.depthL, Tm.countL]
   have := Tm.depth_le_count t
   have := Tm.depthL_le_countL ts
   omega
end
theorem Tm.nodesL_append (l : Nat) : ∀ a b : List Tm, Tm.nodesL l (a ++ b) = Tm.nodesL l a ++ Tm.nodesL l b
 | [], b => by simp [Tm.nodesL]
 | t :: a, b => by simp [Tm.nodesL, Tm.nodesL_append l a b]
theorem Tm.nodesL_snoc (l : Nat) (ts : List Tm) (j : Nat) (hj : j < ts.length) : Tm.nodesL l (ts.take (j + 1)) = Tm.nodesL l (ts.take j) ++ Tm.nodes l ts[j] := by
 rw [List.take_succ_eq_append_getElem hj, Tm.nodesL_append]
 simp [Tm.nodesL]
theorem Tm.nodesL_prefix (l : Nat) (ts : List Tm) (j : Nat) (hj : j < ts.length) {q : List (Tm × Nat)} (h : q <+: Tm.nodes l ts[j]) : Tm.nodesL l (ts.take j) ++ q <+: Tm.nodesL l ts := by
 have e : Tm.nodesL l ts = Tm.nodesL l (ts.take (j + 1)) ++ Tm.nodesL l (ts.drop (j + 1)) := by rw [← Tm.nodesL_append, List.take_append_drop]
 rw [e, Tm.nodesL_snoc l ts j hj, List.append_assoc]
 obtain ⟨r, hr⟩ := h
 exact ⟨r ++ Tm.nodesL l (ts.drop (j + 1)), by rw [← hr]; simp⟩

end Go.Proofs.YtlmdhlckgbgfhaaGreatDoor
namespace Go.Proofs.YtlmdhlckgbgfhaaGreatDoor
open Go.RowKit

def lowerB (c : Int) : Bool := decide (97 ≤ c) && decide (c ≤ 122)
def upperB (c : Int) : Bool := decide (65 ≤ c) && decide (c ≤ 90)
def digitB (c : Int) : Bool := decide (48 ≤ c) && decide (c ≤ 57)
def wordB (c : Int) : Bool := lowerB c || upperB c || digitB c || decide (c = 95)

theorem lower_any (c : Int) (w : World) :
   Calls Tryz.prog 74 #[.int .u8 c] w fun e w' => e = .returned (.bool (lowerB c)) ∧ w = w' := by
 by_cases h1 : 97 ≤ c <;> by_cases h2 : c ≤ 122
 all_goals
   go_enter Tryz.func74, Tryz.ntmps74
   go_wp2
   go_ret
   exact ⟨by unfold lowerB; first | (rw [decide_eq_true (by omega)]; simp; done) | (rw [decide_eq_false (by omega)]; simp; done) | (simp [h1, h2]; done) | (simp; omega), rfl⟩

theorem upper_any (c : Int) (w : World) :
   Calls Tryz.prog 53 #[.int .u8 c] w fun e w' => e = .returned (.bool (upperB c)) ∧ w = w' := by
 by_cases h1 : 65 ≤ c <;> by_cases h2 : c ≤ 90
 all_goals
   go_enter Tryz.func53, Tryz.ntmps53
   go_wp2
   go_ret
   exact ⟨by unfold upperB; first | (rw [decide_eq_true (by omega)]; simp; done) | (rw [decide_eq_false (by omega)]; simp; done) | (simp [h1, h2]; done) | (simp; omega), rfl⟩
theorem digit_any (c : Int) (w : World) :
   Calls Tryz.prog 79 #[.int .u8 c] w fun e w' => e = .returned (.bool (digitB c)) ∧ w = w' := by
 by_cases h1 : 48 ≤ c <;> by_cases h2 : c ≤ 57
 all_goals
   go_enter Tryz.func79, Tryz.ntmps79
   go_wp2
   go_ret
   exact ⟨by unfold digitB; first | (rw [decide_eq_true (by omega)]; simp; done) | (rw [decide_eq_false (by omega)]; simp; done) | (simp [h1, h2]; done) | (simp; omega), rfl⟩

theorem word_any (c : Int) (w : World) :
   Calls Tryz.prog 77 #[.int .u8 c] w fun e w' => e = .returned (.bool (wordB c)) ∧ w = w' := by
 cases h1 : lowerB c <;> cases h2 : upperB c <;> cases h3 : digitB c <;> by_cases h4 : c = 95
 all_goals
   have hw : wordB c = (lowerB c || upperB c || digitB c || decide (c = 95)) := rfl
   simp only [h1, h2, h3, h4, Bool.or_true, Bool.or_false, decide_true, decide_false] at hw
   first | subst h4 | (have h5 : (c == 95) = false := by simpa using h4)
   go_enter Tryz.func77, Tryz.ntmps77
   go_wp2_with (first
     | (go_at_call 74; refine (lower_any _ _).mono ?_; rintro e w' ⟨rfl, rfl⟩)
     | (go_at_call 53; refine (upper_any _ _).mono ?_; rintro e w' ⟨rfl, rfl⟩)
     | (go_at_call 79; refine (digit_any _ _).mono ?_; rintro e w' ⟨rfl, rfl⟩))
   go_ret
   exact ⟨by rw [hw]; rfl, rfl⟩

def allB (p : Int → Bool) (s : ByteArray) : Bool := s.data.toList.all fun b => p b.toNat
theorem allB_false {p : Int → Bool} {s : ByteArray} {k : Nat} (hk : k < s.size) (h : p s[k].toNat = false) : allB p s = false := by
 unfold allB
 rw [List.all_eq_false]
 exact ⟨s[k], by rw [show s[k] = s.data.toList[k]'(by simpa using hk) from rfl]; exact List.getElem_mem _, by rw [h]; simp⟩
theorem allB_true {p : Int → Bool} {s : ByteArray} {k : Nat} (hk : ¬ k < s.size) (h : (s.data.toList.take k).all (fun b => p b.toNat) = true) : allB p s = true := by
 unfold allB
 rwa [List.take_of_length_le (by simp; omega)] at h

theorem all_word (s : ByteArray) (w : World) (hs : s.size ≤ maxLen) :
   Calls Tryz.prog 76 #[.string s, .func (.func 77) #[] #[]] w fun e w' => e = .returned (.bool (allB wordB s)) ∧ w = w' := by
 unfold maxLen at hs
 go_enter Tryz.func76, Tryz.ntmps76
 go_wp2
 go_loop [5, 8] (fun _ i => ∃ k : Nat, k ≤ s.size ∧ i = .int .i64 k ∧ (s.data.toList.take k).all (fun b => wordB b.toNat) = true) (fun _ i => s.size - (intOf i).toNat)
 case atStart => exact ⟨0, Nat.zero_le _, rfl, rfl⟩
 case round =>
   obtain ⟨k, hk, rfl, hr⟩ := hrel
   by_cases hlt : k < s.size
   · have hts : s.data.toList.take (k + 1) = s.data.toList.take k ++ [s[k]] := by
       rw [List.take_succ_eq_append_getElem (by simpa using hlt)]; rfl
     have HT := Hi hts; clear hts
     have HR := Hi hr; clear hr
     cases hp : wordB s[k].toNat
     · have HP := Hi hp
       go_wp2_with (go_at_call 77; refine (word_any _ _).mono ?_; rintro e w' ⟨rfl, rfl⟩)
       go_ret
       exact ⟨by rw [allB_false hlt HP.out]; rfl, rfl⟩
     · have HP := Hi hp
       go_wp2_with (go_at_call 77; refine (word_any _ _).mono ?_; rintro e w' ⟨rfl, rfl⟩)
       go_round
       case rel => exact ⟨k + 1, by omega, by go_num, by rw [HT.out, List.all_append, HR.out]; simp [HP.out]⟩
       case measure => simp [intOf]; omega
   · have HR := Hi hr; clear hr
     go_wp2
     go_ret
     exact ⟨by rw [allB_true hlt HR.out]; rfl, rfl⟩
theorem all_digit (s : ByteArray) (w : World) (hs : s.size ≤ maxLen) :
   Calls Tryz.prog 76 #[.string s, .func (.func 79) #[] #[]] w fun e w' => e = .returned (.bool (allB digitB s)) ∧ w = w' := by
 unfold maxLen at hs
 go_enter Tryz.func76, Tryz.ntmps76
 go_wp2
 go_loop [5, 8] (fun _ i => ∃ k : Nat, k ≤ s.size ∧ i = .int .i64 k ∧ (s.data.toList.take k).all (fun b => digitB b.toNat) = true) (fun _ i => s.size - (intOf i).toNat)
 case atStart => exact ⟨0, Nat.zero_le _, rfl, rfl⟩
 case round =>
   obtain ⟨k, hk, rfl, hr⟩ := hrel
   by_cases hlt : k < s.size
   · have hts : s.data.toList.take (k + 1) = s.data.toList.take k ++ [s[k]] := by
       rw [List.take_succ_eq_append_getElem (by simpa using hlt)]; rfl
     have HT := Hi hts; clear hts
     have HR := Hi hr; clear hr
     cases hp : digitB s[k].toNat
     · have HP := Hi hp
       go_wp2_with (go_at_call 79; refine (digit_any _ _).mono ?_; rintro e w' ⟨rfl, rfl⟩)
       go_ret
       exact ⟨by rw [allB_false hlt HP.out]; rfl, rfl⟩
     · have HP := Hi hp
       go_wp2_with (go_at_call 79; refine (digit_any _ _).mono ?_; rintro e w' ⟨rfl, rfl⟩)
       go_round
       case rel => exact ⟨k + 1, by omega, by go_num, by rw [HT.out, List.all_append, HR.out]; simp [HP.out]⟩
       case measure => simp [intOf]; omega
   · have HR := Hi hr; clear hr
     go_wp2
     go_ret
     exact ⟨by rw [allB_true hlt HR.out]; rfl, rfl⟩
end Go.Proofs.YtlmdhlckgbgfhaaGreatDoor
namespace Go.Proofs.YtlmdhlckgbgfhaaGreatDoor
open Go.RowKit

def namedL (st : Int → Bool) : List UInt8 → Bool
 | [] => false
 | c :: r => st c.toNat && allB wordB ⟨(c :: r).toArray⟩
def namedB (st : Int → Bool) (s : ByteArray) : Bool := namedL st (Lib.trimLeftB s.data.toList 95)

theorem trim_size (s : ByteArray) : (Lib.trimLeftB s.data.toList 95).length ≤ s.size := by
 unfold Lib.trimLeftB
 have := List.Sublist.length_le (List.dropWhile_sublist (fun b : UInt8 => b == 95) (l := s.data.toList))
 simpa using this

theorem named_lower (s : ByteArray) (w : World) (hs : s.size ≤ maxLen) :
   Calls Tryz.prog 52 #[.string s, .func (.func 74) #[] #[]] w fun e w' => e = .returned (.bool (namedB lowerB s)) ∧ w = w' := by
 have hl := trim_size s
 have hd : namedB lowerB s = namedL lowerB (Lib.trimLeftB s.data.toList 95) := rfl
 have HD := Hi hd; clear hd
 go_enter Tryz.func52, Tryz.ntmps52
 go_wp2_with (go_at_call 75; refine (Tryz.strings_TrimLeft_one _ 95 (by decide) _).mono ?_)
 rintro e w' ⟨rfl, rfl⟩
 revert HD hl
 generalize Lib.trimLeftB s.data.toList 95 = l
 intro hl HD
 cases l with
 | nil =>
   go_wp2_with fail
   go_ret
   exact ⟨by rw [HD.out]; rfl, rfl⟩
 | cons c r =>
   have hsz : (ByteArray.mk (c :: r).toArray).size ≤ maxLen := by
     show (c :: r).toArray.size ≤ maxLen
     simp at hl ⊢; omega
   have HS := Hi hsz; clear hsz
   cases hc : lowerB c.toNat
   · have HC := Hi hc
     have hc2 : lowerB ((ByteArray.mk (c :: r).toArray)[0]'(by show 0 < (c :: r).toArray.size; simp)).toNat = false := hc
     clear hc
     go_wp2_with (go_at_call 74; refine (lower_any _ _).mono ?_; rintro e w'' ⟨rfl, rfl⟩)
     go_ret
     exact ⟨by rw [HD.out]; simp only [namedL, HC.out, Bool.false_and]; rfl, rfl⟩
   · have HC := Hi hc
     have hc2 : lowerB ((ByteArray.mk (c :: r).toArray)[0]'(by show 0 < (c :: r).toArray.size; simp)).toNat = true := hc
     clear hc
     go_wp2_with (first | (go_at_call 74; refine (lower_any _ _).mono ?_; rintro e w'' ⟨rfl, rfl⟩) | (go_at_call 76; refine (all_word _ _ HS.out).mono ?_; rintro e w'' ⟨rfl, rfl⟩))
     go_ret
     exact ⟨by rw [HD.out]; simp only [namedL, HC.out, Bool.true_and]; rfl, rfl⟩

theorem named_upper (s : ByteArray) (w : World) (hs : s.size ≤ maxLen) :
   Calls Tryz.prog 52 #[.string s, .func (.func 53) #[] #[]] w fun e w' => e = .returned (.bool (namedB upperB s)) ∧ w = w' := by
 have hl := trim_size s
 have hd : namedB upperB s = namedL upperB (Lib.trimLeftB s.data.toList 95) := rfl
 have HD := Hi hd; clear hd
 go_enter Tryz.func52, Tryz.ntmps52
 go_wp2_with (go_at_call 75; refine (Tryz.strings_TrimLeft_one _ 95 (by decide) _).mono ?_)
 rintro e w' ⟨rfl, rfl⟩
 revert HD hl
 generalize Lib.trimLeftB s.data.toList 95 = l
 intro hl HD
 cases l with
 | nil =>
   go_wp2_with fail
   go_ret
   exact ⟨by rw [HD.out]; rfl, rfl⟩
 | cons c r =>
   have hsz : (ByteArray.mk (c :: r).toArray).size ≤ maxLen := by
     show (c :: r).toArray.size ≤ maxLen
     simp at hl ⊢; omega
   have HS := Hi hsz; clear hsz
   cases hc : upperB c.toNat
   · have HC := Hi hc
     have hc2 : upperB ((ByteArray.mk (c :: r).toArray)[0]'(by show 0 < (c :: r).toArray.size; simp)).toNat = false := hc
     clear hc
     go_wp2_with (go_at_call 53; refine (upper_any _ _).mono ?_; rintro e w'' ⟨rfl, rfl⟩)
     go_ret
     exact ⟨by rw [HD.out]; simp only [namedL, HC.out, Bool.false_and]; rfl, rfl⟩
   · have HC := Hi hc
     have hc2 : upperB ((ByteArray.mk (c :: r).toArray)[0]'(by show 0 < (c :: r).toArray.size; simp)).toNat = true := hc
     clear hc
     go_wp2_with (first | (go_at_call 53; refine (upper_any _ _).mono ?_; rintro e w'' ⟨rfl, rfl⟩) | (go_at_call 76; refine (all_word _ _ HS.out).mono ?_; rintro e w'' ⟨rfl, rfl⟩))
     go_ret
     exact ⟨by rw [HD.out]; simp only [namedL, HC.out, Bool.true_and]; rfl, rfl⟩

def symbolB (s : ByteArray) : Bool := decide (s.size ≤ 32) && !(s.toList == [110, 111, 116]) && namedB lowerB s
def variableB (s : ByteArray) : Bool := decide (s.size ≤ 32) && (namedB upperB s || (Lib.hasPrefix s.data.toList [95] && allB digitB ⟨(Lib.trimPrefix s.data.toList [95]).toArray⟩))

theorem anonymous_any (s : ByteArray) (w : World) (hs : s.size ≤ maxLen) :
   Calls Tryz.prog 54 #[.string s] w fun e w' => e = .returned (.bool (Lib.hasPrefix s.data.toList [95] && allB digitB ⟨(Lib.trimPrefix s.data.toList [95]).toArray⟩)) ∧ w = w' := by
 have hl : (ByteArray.mk (Lib.trimPrefix s.data.toList [95]).toArray).size ≤ maxLen := by
   show (Lib.trimPrefix s.data.toList [95]).toArray.size ≤ maxLen
   have h1 : (Lib.trimPrefix s.data.toList [95]).length ≤ s.size := by
     unfold Lib.trimPrefix; split <;> simp
   simp; omega
 have HL := Hi hl; clear hl
 cases hp : Lib.hasPrefix s.data.toList [95]
 · go_enter Tryz.func54, Tryz.ntmps54
   go_wp2_with (go_at_call 78; refine (Tryz.strings_CutPrefix _ _ _).mono ?_; rintro e w' ⟨rfl, rfl⟩)
   go_ret
   exact ⟨by simp, rfl⟩
 · go_enter Tryz.func54, Tryz.ntmps54
   go_wp2_with (first | (go_at_call 78; refine (Tryz.strings_CutPrefix _ _ _).mono ?_; rintro e w' ⟨rfl, rfl⟩) | (go_at_call 76; refine (all_digit _ _ HL.out).mono ?_; rintro e w'' ⟨rfl, rfl⟩))
   go_ret
   exact ⟨by simp, rfl⟩

theorem symbol_any (s : ByteArray) (w : World) (hs : s.size ≤ maxLen) :
   Calls Tryz.prog 44 #[.string s] w fun e w' => e = .returned (.bool (symbolB s)) ∧ w = w' := by
 have hd : symbolB s = (decide (s.size ≤ 32) && !(s.toList == [110, 111, 116]) && namedB lowerB s) := rfl
 have HD := Hi hd; clear hd
 by_cases h1 : s.size ≤ 32 <;> cases h2 : (s.toList == [110, 111, 116])
 all_goals
   have H1 := Hi h1
   have H2 := Hi h2
   go_enter Tryz.func44, Tryz.ntmps44
   go_wp2_with (go_at_call 52; refine (named_lower _ _ hs).mono ?_; rintro e w' ⟨rfl, rfl⟩)
   go_ret
   exact ⟨by rw [HD.out, H2.out]; simp [H1.out], rfl⟩

theorem variable_any (s : ByteArray) (w : World) (hs : s.size ≤ maxLen) :
   Calls Tryz.prog 27 #[.string s] w fun e w' => e = .returned (.bool (variableB s)) ∧ w = w' := by
 have hd : variableB s = (decide (s.size ≤ 32) && (namedB upperB s || (Lib.hasPrefix s.data.toList [95] && allB digitB ⟨(Lib.trimPrefix s.data.toList [95]).toArray⟩))) := rfl
 have HD := Hi hd; clear hd
 by_cases h1 : s.size ≤ 32 <;> cases h2 : namedB upperB s
 all_goals
   have H1 := Hi h1
   have H2 := Hi h2
   go_enter Tryz.func27, Tryz.ntmps27
   go_wp2_with (first | (go_at_call 52; refine (named_upper _ _ hs).mono ?_; rintro e w' ⟨rfl, rfl⟩) | (go_at_call 54; refine (anonymous_any _ _ hs).mono ?_; rintro e w' ⟨rfl, rfl⟩))
   go_ret
   exact ⟨by rw [HD.out, H2.out]; simp [H1.out], rfl⟩

end Go.Proofs.YtlmdhlckgbgfhaaGreatDoor
namespace Go.Proofs.YtlmdhlckgbgfhaaGreatDoor
open Go.RowKit

def clsI (c : Int) : Int :=
 if c = 32 ∨ c = 9 ∨ c = 10 ∨ c = 13 then 1
 else if (97 ≤ c ∧ c ≤ 122) ∨ (65 ≤ c ∧ c ≤ 90) then 2
 else if 48 ≤ c ∧ c ≤ 57 then 4
 else if c = 95 then 8
 else if c = 37 then 16
 else if c = 35 then 32
 else 0
theorem cls_letter {c : Int} (h : (97 ≤ c ∧ c ≤ 122) ∨ (65 ≤ c ∧ c ≤ 90)) : clsI c = 2 := by
 unfold clsI; rw [if_neg (by omega), if_pos h]
theorem cls_digit {c : Int} (h : 48 ≤ c ∧ c ≤ 57) : clsI c = 4 := by
 unfold clsI; rw [if_neg (by omega), if_neg (by omega), if_pos h]
theorem cls_lit (c : Int) : clsI c = 0 ∨ clsI c = 1 ∨ clsI c = 2 ∨ clsI c = 4 ∨ clsI c = 8 ∨ clsI c = 16 ∨ clsI c = 32 := by
 unfold clsI; repeat' split
 all_goals simp
def inB (k c : Int) : Bool := bits BinOp.and IntKind.u8 (clsI c) k != 0
def nlB (c : Int) : Bool := !(c == 10)
def begB (p : Int → Bool) (s : ByteArray) (a : Nat) : Bool := if h : a < s.size then p s[a].toNat else false
def runN (p : Int → Bool) (s : ByteArray) (a : Nat) : Nat := a + ((s.data.toList.drop a).takeWhile fun b => p b.toNat).length
theorem runN_step {p : Int → Bool} {s : ByteArray} {a : Nat} (h : begB p s a = true) : runN p s (a + 1) = runN p s a := by
 unfold begB at h
 split at h
 · rename_i hlt
   unfold runN
   rw [List.drop_eq_getElem_cons (by simpa using hlt : a < s.data.toList.length), List.takeWhile_cons, if_pos (show p (s.data.toList[a]'(by simpa using hlt)).toNat = true from h)]
   simp; omega
 · cases h
theorem runN_stop {p : Int → Bool} {s : ByteArray} {a : Nat} (h : begB p s a = false) : runN p s a = a := by
 unfold begB at h
 split at h
 · rename_i hlt
   unfold runN
   rw [List.drop_eq_getElem_cons (by simpa using hlt : a < s.data.toList.length), List.takeWhile_cons, if_neg (show ¬ p (s.data.toList[a]'(by simpa using hlt)).toNat = true by rw [show p (s.data.toList[a]'(by simpa using hlt)).toNat = false from h]; simp)]
   simp
 · rename_i hlt
   unfold runN
   rw [List.drop_eq_nil_of_le (by simpa using hlt)]
   simp
theorem runN_le {p : Int → Bool} {s : ByteArray} {a : Nat} (h : a ≤ s.size) : a ≤ runN p s a ∧ runN p s a ≤ s.size := by
 unfold runN
 have := (List.takeWhile_prefix (fun b : UInt8 => p b.toNat) (l := s.data.toList.drop a)).length_le
 simp at this
 have hz : s.data.size = s.size := rfl
 omega
theorem begB_lt {p : Int → Bool} {s : ByteArray} {a : Nat} (h : begB p s a = true) : a < s.size := by
 unfold begB at h
 split at h
 · assumption
 · cases h
def sk : Bool → List UInt8 → List UInt8
 | _, [] => []
 | false, c :: r => if inB 1 c.toNat then sk false r else if inB 16 c.toNat then sk true r else c :: r
 | true, c :: r => if nlB c.toNat then sk true r else sk false r
theorem sk_suffix : ∀ (l : List UInt8) (b : Bool), sk b l <:+ l
 | [], b => by cases b <;> exact List.suffix_refl _
 | c :: r, false => by
   unfold sk; split
   · exact (sk_suffix r false).trans (List.suffix_cons _ _)
   · split
     · exact (sk_suffix r true).trans (List.suffix_cons _ _)
     · exact List.suffix_refl _
 | c :: r, true => by
   unfold sk; split
   · exact (sk_suffix r true).trans (List.suffix_cons _ _)
   · exact (sk_suffix r false).trans (List.suffix_cons _ _)
theorem sk_blanks : ∀ l : List UInt8, sk false (l.dropWhile fun c => inB 1 c.toNat) = sk false l
 | [] => rfl
 | c :: r => by
   rw [List.dropWhile_cons]
   by_cases h : inB 1 c.toNat = true
   · rw [if_pos h, sk_blanks r]; conv => rhs; unfold sk
     rw [if_pos h]
   · rw [if_neg h]
theorem in_nl {c : UInt8} (h : nlB c.toNat = false) : inB 1 c.toNat = true := by
 unfold nlB at h
 have : c.toNat = 10 := by have : (c.toNat : Int) = 10 := by simpa using h
                           omega
 rw [this]; rfl
theorem sk_line : ∀ l : List UInt8, sk false (l.dropWhile fun c => nlB c.toNat) = sk true l
 | [] => rfl
 | c :: r => by
   rw [List.dropWhile_cons]
   cases h : nlB c.toNat
   · rw [if_neg (by simp)]
     have h1 := in_nl h
     conv => lhs; unfold sk
     conv => rhs; unfold sk
     rw [if_pos h1, if_neg (by simp [h])]
   · rw [if_pos rfl, sk_line r]
     conv => rhs; unfold sk
     rw [if_pos h]
def skN (s : ByteArray) (a : Nat) : Nat := s.size - (sk false (s.data.toList.drop a)).length
theorem begB_drop {p : Int → Bool} {s : ByteArray} {a : Nat} : begB p s a = match s.data.toList.drop a with | [] => false | c :: _ => p c.toNat := by
 unfold begB
 split
 · rename_i h
   rw [List.drop_eq_getElem_cons (by simpa using h : a < s.data.toList.length)]; rfl
 · rename_i h
   rw [List.drop_eq_nil_of_le (by simpa using h)]
theorem drop_run {p : Int → Bool} {s : ByteArray} {a : Nat} : s.data.toList.drop (runN p s a) = (s.data.toList.drop a).dropWhile fun c => p c.toNat := by
 unfold runN
 rw [← List.drop_drop]
 generalize s.data.toList.drop a = l
 induction l with
 | nil => rfl
 | cons c r ih =>
   rw [List.takeWhile_cons, List.dropWhile_cons]
   split
   · simpa using ih
   · rfl
theorem skN_blanks {s : ByteArray} {a : Nat} : skN s (runN (inB 1) s a) = skN s a := by
 unfold skN; rw [drop_run, sk_blanks]
theorem sk_pct {l : List UInt8} (h : (match l with | [] => false | c :: _ => inB 16 c.toNat) = true) : sk false (l.dropWhile fun c => nlB c.toNat) = sk false l := by
 cases l with
 | nil => cases h
 | cons c r =>
   have hc : (c.toNat : Int) = 37 := by
     revert h
     show inB 16 c.toNat = true → _
     unfold inB clsI
     intro h
     split at h
     · cases h
     · split at h
       · cases h
       · split at h
         · cases h
         · split at h
           · cases h
           · split at h
             · assumption
             · split at h <;> cases h
   rw [sk_line]
   conv => rhs; unfold sk
   conv => lhs; unfold sk
   rw [hc]; rfl
theorem skN_line {s : ByteArray} {a : Nat} (h : begB (inB 16) s a = true) : skN s (runN nlB s a) = skN s a := by
 rw [begB_drop] at h
 unfold skN; rw [drop_run, sk_pct h]
theorem sk_id {l : List UInt8} (h : (match l with | [] => false | c :: _ => inB 17 c.toNat) = false) : sk false l = l := by
 cases l with
 | nil => rfl
 | cons c r =>
   replace h : inB 17 c.toNat = false := h
   have h1 : inB 1 c.toNat = false := by
     unfold inB at h ⊢
     rcases cls_lit c.toNat with e | e | e | e | e | e | e <;> rw [e] at h ⊢ <;> first | rfl | cases h
   have h2 : inB 16 c.toNat = false := by
     unfold inB at h ⊢
     rcases cls_lit c.toNat with e | e | e | e | e | e | e <;> rw [e] at h ⊢ <;> first | rfl | cases h
   unfold sk
   rw [if_neg (by simp [h1]), if_neg (by simp [h2])]
theorem skN_stop {s : ByteArray} {a : Nat} (ha : a ≤ s.size) (h : begB (inB 17) s a = false) : skN s a = a := by
 rw [begB_drop] at h
 unfold skN; rw [sk_id h]
 have : s.data.toList.length = s.size := rfl
 simp; omega
theorem skN_ge {s : ByteArray} {a : Nat} (ha : a ≤ s.size) : a ≤ skN s a ∧ skN s a ≤ s.size := by
 unfold skN
 have := (sk_suffix (s.data.toList.drop a) false).length_le
 have e : s.data.toList.length = s.size := rfl
 rw [List.length_drop, e] at this
 omega
theorem skN_drop {s : ByteArray} {a : Nat} : s.data.toList.drop (skN s a) = sk false (s.data.toList.drop a) := by
 have hs := (sk_suffix (s.data.toList.drop a) false).trans (List.drop_suffix a s.data.toList)
 unfold skN
 exact (List.suffix_iff_eq_drop.1 hs).symm
theorem runN_gt {p : Int → Bool} {s : ByteArray} {a : Nat} (h : begB p s a = true) : a < runN p s a := by
 have hlt := begB_lt h
 rw [← runN_step h]
 have := (runN_le (p := p) (s := s) (a := a + 1) (by omega)).1
 omega
theorem in16_nl {c : Int} (h : inB 16 c = true) : nlB c = true := by
 by_cases e : c = 10
 · subst e; cases h
 · unfold nlB; simpa using e
theorem beg16 {s : ByteArray} {a : Nat} (h : begB (inB 16) s a = true) : begB nlB s a = true := by
 unfold begB at h ⊢
 split at h
 · rename_i hl
   rw [dif_pos hl]; exact in16_nl h
 · cases h
def dirB (s : ByteArray) : Bool := s.toList == [35, 99, 111, 110, 115, 116] || s.toList == [35, 115, 104, 111, 119] || s.toList == [35, 109, 105, 110, 105, 109, 105, 122, 101] || s.toList == [35, 99, 111, 117, 110, 116] || s.toList == [35, 115, 117, 109]
def dirK (s : ByteArray) : Int := if dirB s then 5 else 0
def dirE (s : ByteArray) : Int := if dirB s then 0 else 31
def sigK (s : ByteArray) : Int := if s.toList.isEmpty then 0 else 6
def sigE (s : ByteArray) : Int := if s.toList.isEmpty then 30 else 0
def twoB (l : List UInt8) : Bool := l == [58, 45] || l == [58, 126] || l == [46, 46] || l == [33, 61] || l == [60, 61] || l == [62, 61]
def oneL : List UInt8 := [58, 46, 44, 59, 124, 40, 41, 123, 125, 91, 93, 61, 60, 62, 43, 45, 42, 47, 92, 64]
def signL (l : List UInt8) : Nat := if twoB (l.take 2) then 2 else match l with | [] => 0 | c :: _ => if oneL.contains c then 1 else 0
theorem toList_data (s : ByteArray) : s.toList = s.data.toList := Lib.toList_data s
def notB (s : ByteArray) : Bool := s.toList == [110, 111, 116]
def wordK (s : ByteArray) : Int := if notB s then 4 else if symbolB s then 1 else if variableB s then 2 else 0
def wordE (s : ByteArray) : Int := if notB s || symbolB s || variableB s then 0 else 31
def numB (s : ByteArray) : Bool := match Lib.parseIntB 64 s.data.toList with
 | .ok n => decide (n ≤ 2147483647) && !(s.data.toList.headD 0 == 48 && decide (1 < s.size))
 | _ => false
def numK (s : ByteArray) : Int := if numB s then 3 else 0
def numE (s : ByteArray) : Int := if numB s then 0 else 32
theorem in4 {c : UInt8} (h : inB 4 c.toNat = true) : 48 ≤ c.toNat ∧ c.toNat ≤ 57 := by
 unfold inB clsI at h
 split at h
 · cases h
 · split at h
   · cases h
   · split at h
     · omega
     · split at h
       · cases h
       · split at h
         · cases h
         · split at h <;> cases h
theorem ext_le (s : ByteArray) (a b : Nat) (h : s.size ≤ maxLen) : (s.extract a b).size ≤ maxLen := by rw [ByteArray.size_extract]; omega
theorem ext_list (s : ByteArray) (a b : Nat) : (s.extract a b).data.toList = (s.data.toList.drop a).take (b - a) := by
 exact Lib.extract_data s a b
theorem takeWhile_take {p : UInt8 → Bool} : ∀ l : List UInt8, l.take (l.takeWhile p).length = l.takeWhile p
 | [] => rfl
 | c :: r => by
   rw [List.takeWhile_cons]
   split
   · simp [takeWhile_take r]
   · rfl
theorem ext_run {p : Int → Bool} {s : ByteArray} {a : Nat} : (s.extract a (runN p s a)).data.toList = (s.data.toList.drop a).takeWhile fun b => p b.toNat := by
 rw [ext_list]; unfold runN; rw [Nat.add_sub_cancel_left, takeWhile_take]
theorem mem_tw {p : UInt8 → Bool} : ∀ (l : List UInt8) (c : UInt8), c ∈ l.takeWhile p → p c = true
 | [], _, h => by cases h
 | x :: r, c, h => by
   rw [List.takeWhile_cons] at h
   split at h
   · rcases List.mem_cons.1 h with rfl | h
     · assumption
     · exact mem_tw r c h
   · cases h
theorem ext_all {p : Int → Bool} {s : ByteArray} {a : Nat} : ∀ c ∈ (s.extract a (runN p s a)).data.toList, p c.toNat = true := by
 intro c hc; rw [ext_run] at hc
 exact mem_tw _ _ hc
theorem ext_pos {p : Int → Bool} {s : ByteArray} {a : Nat} (_ : s.size ≤ maxLen) (h : begB p s a = true) : 0 < (s.extract a (runN p s a)).size := by
 have h1 := runN_gt h
 have h2 := begB_lt h
 have h3 := (runN_le (p := p) (s := s) (a := a) (by omega)).2
 rw [ByteArray.size_extract]; omega
theorem signL_le (l : List UInt8) : signL l ≤ l.length := by
 unfold signL
 split
 · rename_i h
   rcases l with _ | ⟨c, _ | ⟨d, r⟩⟩
   · cases h
   · unfold twoB at h
     simp at h
   · simp
 · cases l with
   | nil => simp
   | cons c r => simp; split <;> omega
variable {F : Fence} {n : Nat} {P : Program} {w : World}
structure Tk where
 k : Int
 t : ByteArray
 a : Nat
 e : Int
def Tk.agg (x : Tk) : Value := .agg #[.int .u8 x.k, .string x.t, .int .i64 x.a]
def Tk.val (x : Tk) : Array Value := #[x.agg, .int .i64 x.e]
def tokN (s : ByteArray) (a : Nat) : Nat := if begB (inB 10) s a then runN (inB 14) s a else if begB (inB 4) s a then runN (inB 4) s a else if begB (inB 32) s a then runN (inB 2) s (a + 1) else a + signL (s.data.toList.drop a)
def tkK (s : ByteArray) (a : Nat) (x : ByteArray) : Int := if begB (inB 10) s a then wordK x else if begB (inB 4) s a then numK x else if begB (inB 32) s a then dirK x else sigK x
def tkE (s : ByteArray) (a : Nat) (x : ByteArray) : Int := if begB (inB 10) s a then wordE x else if begB (inB 4) s a then numE x else if begB (inB 32) s a then dirE x else sigE x
def tokAt (s : ByteArray) (a : Nat) : Tk := ⟨tkK s a (s.extract a (tokN s a)), s.extract a (tokN s a), a, tkE s a (s.extract a (tokN s a))⟩
theorem tokN_le {s : ByteArray} {a : Nat} (ha : a < s.size) : a ≤ tokN s a ∧ tokN s a ≤ s.size := by
 unfold tokN
 split
 · exact runN_le (by omega)
 · split
   · exact runN_le (by omega)
   · split
     · have := runN_le (p := inB 2) (s := s) (a := a + 1) (by omega); omega
     · have h := signL_le (s.data.toList.drop a)
       have e : s.data.toList.length = s.size := rfl
       rw [List.length_drop, e] at h; omega
theorem in10_14 {c : Int} (h : inB 10 c = true) : inB 14 c = true := by
 unfold inB at h ⊢
 rcases cls_lit c with e | e | e | e | e | e | e <;> rw [e] at h ⊢ <;> first | rfl | cases h
theorem beg10_14 {s : ByteArray} {a : Nat} (h : begB (inB 10) s a = true) : begB (inB 14) s a = true := by
 unfold begB at h ⊢
 split at h
 · rename_i hl; rw [dif_pos hl]; exact in10_14 h
 · cases h
theorem tokN_gt {s : ByteArray} {a : Nat} (ha : a < s.size) (h : (tokAt s a).e = 0) : a < tokN s a := by
 unfold tokAt tkE at h
 simp only [] at h
 unfold tokN at h ⊢
 split
 · rename_i h1; exact runN_gt (beg10_14 h1)
 · rename_i h1
   rw [if_neg h1, if_neg h1] at h
   split
   · rename_i h2; exact runN_gt h2
   · rename_i h2
     rw [if_neg h2, if_neg h2] at h
     split
     · have := runN_le (p := inB 2) (s := s) (a := a + 1) (by omega); omega
     · rename_i h3
       rw [if_neg h3, if_neg h3] at h
       apply Decidable.byContradiction; intro hn
       have h0 : signL (s.data.toList.drop a) = 0 := by omega
       rw [h0] at h
       have hz : (s.extract a (a + 0)).size = 0 := by rw [ByteArray.size_extract]; omega
       have hl : (s.extract a (a + 0)).toList.isEmpty = true := by
         rw [toList_data]
         have : (s.extract a (a + 0)).data.toList.length = 0 := hz
         rw [List.length_eq_zero_iff] at this; rw [this]; rfl
       unfold sigE at h; rw [if_pos hl] at h; cases h
def lexF : Nat → ByteArray → Nat → List Tk
 | 0, _, _ => []
 | f + 1, s, a => if skN s a < s.size then (if (tokAt s (skN s a)).e = 0 then tokAt s (skN s a) :: lexF f s (tokN s (skN s a)) else [tokAt s (skN s a)]) else []
def lexAll (s : ByteArray) : List Tk := lexF (s.size + 1) s 0
theorem sk_sk : ∀ (l : List UInt8) (b : Bool), sk false (sk b l) = sk b l
 | [], b => by cases b <;> rfl
 | c :: r, false => by
   by_cases h1 : inB 1 c.toNat = true
   · have e : sk false (c :: r) = sk false r := by (conv => lhs; unfold sk); rw [if_pos h1]
     rw [e]; exact sk_sk r false
   · by_cases h2 : inB 16 c.toNat = true
     · have e : sk false (c :: r) = sk true r := by (conv => lhs; unfold sk); rw [if_neg h1, if_pos h2]
       rw [e]; exact sk_sk r true
     · have e : sk false (c :: r) = c :: r := by (conv => lhs; unfold sk); rw [if_neg h1, if_neg h2]
       rw [e, e]
 | c :: r, true => by
   by_cases h1 : nlB c.toNat = true
   · have e : sk true (c :: r) = sk true r := by (conv => lhs; unfold sk); rw [if_pos h1]
     rw [e]; exact sk_sk r true
   · have e : sk true (c :: r) = sk false r := by (conv => lhs; unfold sk); rw [if_neg h1]
     rw [e]; exact sk_sk r false
theorem skN_idem {s : ByteArray} {a : Nat} : skN s (skN s a) = skN s a := by
 have h := skN_drop (s := s) (a := a)
 have : sk false (sk false (s.data.toList.drop a)) = sk false (s.data.toList.drop a) := by
   generalize s.data.toList.drop a = l
   exact sk_sk l false
 show s.size - (sk false (s.data.toList.drop (skN s a))).length = _
 rw [h, this]; rfl
theorem lexF_skip (f : Nat) (s : ByteArray) (a : Nat) : lexF f s (skN s a) = lexF f s a := by
 cases f with
 | zero => rfl
 | succ f => unfold lexF; rw [skN_idem]
def lexErr (s : ByteArray) : Option Tk := (lexAll s).find? fun x => x.e != 0
theorem lexErr_none {s : ByteArray} (h : ∀ x ∈ lexAll s, x.e = 0) : lexErr s = none := by
 unfold lexErr; rw [List.find?_eq_none]; intro x hx; simpa using h x hx
theorem lexErr_some {s : ByteArray} {ys : List Tk} {x : Tk} (h : ys ++ [x] <+: lexAll s) (hy : ∀ y ∈ ys, y.e = 0) (hx : x.e ≠ 0) : lexErr s = some x := by
 obtain ⟨r, hr⟩ := h
 unfold lexErr
 rw [← hr, List.find?_append, List.find?_append, List.find?_eq_none.2 (by intro y h; simpa using hy y h)]
 simp [hx]
theorem lexF_le (s : ByteArray) : ∀ (f a : Nat), a ≤ s.size → (lexF f s a).length ≤ s.size - a
 | 0, a, _ => by simp [lexF]
 | f + 1, a, h => by
   have h1 := skN_ge (s := s) (a := a) h
   unfold lexF
   split
   · rename_i hlt
     split
     · rename_i he
       have h2 := tokN_gt hlt he
       have h3 := (tokN_le hlt).2
       have := lexF_le s f _ h3
       simp only [List.length_cons]; omega
     · simp only [List.length_cons, List.length_nil]; omega
   · simp
theorem lexAll_le (s : ByteArray) : (lexAll s).length ≤ s.size := by
 have := lexF_le s (s.size + 1) 0 (Nat.zero_le _); unfold lexAll; omega
def headP (p : Int → Bool) (l : List UInt8) : Bool := match l with | [] => false | c :: _ => p c.toNat
def twN (p : Int → Bool) (l : List UInt8) : Nat := (l.takeWhile fun b => p b.toNat).length
def tLen (l : List UInt8) : Nat := if headP (inB 10) l then twN (inB 14) l else if headP (inB 4) l then twN (inB 4) l else if headP (inB 32) l then 1 + twN (inB 2) (l.drop 1) else signL l
def tText (l : List UInt8) : ByteArray := ⟨(l.take (tLen l)).toArray⟩
def tK (l : List UInt8) : Int := if headP (inB 10) l then wordK (tText l) else if headP (inB 4) l then numK (tText l) else if headP (inB 32) l then dirK (tText l) else sigK (tText l)
def tE (l : List UInt8) : Int := if headP (inB 10) l then wordE (tText l) else if headP (inB 4) l then numE (tText l) else if headP (inB 32) l then dirE (tText l) else sigE (tText l)
def lexL : Nat → List UInt8 → Nat → List Tk
 | 0, _, _ => []
 | f + 1, l, a => match sk false l with
   | [] => []
   | c :: r => if tE (c :: r) = 0 then ⟨tK (c :: r), tText (c :: r), a + (l.length - (c :: r).length), tE (c :: r)⟩ :: lexL f ((c :: r).drop (tLen (c :: r))) (a + (l.length - (c :: r).length) + tLen (c :: r))
     else [⟨tK (c :: r), tText (c :: r), a + (l.length - (c :: r).length), tE (c :: r)⟩]
theorem begB_head {p : Int → Bool} {s : ByteArray} {a : Nat} : begB p s a = headP p (s.data.toList.drop a) := begB_drop
theorem tokN_len (s : ByteArray) (a : Nat) : tokN s a = a + tLen (s.data.toList.drop a) := by
 unfold tokN tLen
 rw [begB_head, begB_head, begB_head]
 split
 · rfl
 · split
   · rfl
   · split
     · unfold runN twN; rw [List.drop_drop]; omega
     · rfl
theorem ext_tText (s : ByteArray) (a : Nat) : s.extract a (tokN s a) = tText (s.data.toList.drop a) := by
 have h : (s.extract a (tokN s a)).data.toList = (s.data.toList.drop a).take (tLen (s.data.toList.drop a)) := by
   rw [ext_list, tokN_len, Nat.add_sub_cancel_left]
 unfold tText; rw [← h]
theorem tokAt_eq (s : ByteArray) (a : Nat) : tokAt s a = ⟨tK (s.data.toList.drop a), tText (s.data.toList.drop a), a, tE (s.data.toList.drop a)⟩ := by
 unfold tokAt
 rw [ext_tText]
 unfold tkK tkE tK tE
 rw [begB_head, begB_head, begB_head]
theorem lexF_eq (s : ByteArray) : ∀ (f a : Nat), a ≤ s.size → lexF f s a = lexL f (s.data.toList.drop a) a
 | 0, _, _ => rfl
 | f + 1, a, ha => by
   have hsz : s.data.toList.length = s.size := rfl
   have hd := skN_drop (s := s) (a := a)
   have hge := skN_ge ha
   have hlen : (sk false (s.data.toList.drop a)).length = s.size - skN s a := by rw [← hd, List.length_drop, hsz]
   have hl2 : (s.data.toList.drop a).length = s.size - a := by rw [List.length_drop, hsz]
   unfold lexF lexL
   cases hsk : sk false (s.data.toList.drop a) with
   | nil =>
     rw [hsk] at hlen
     simp only [List.length_nil] at hlen
     rw [if_neg (by omega)]
   | cons c r =>
     rw [hsk] at hd hlen
     have hlt : skN s a < s.size := by simp only [List.length_cons] at hlen; omega
     have hi : a + ((s.data.toList.drop a).length - (c :: r).length) = skN s a := by rw [hlen, hl2]; omega
     rw [if_pos hlt]
     simp only []
     rw [hi, tokAt_eq, hd]
     simp only []
     split
     · rename_i he
       have h1 : (tokAt s (skN s a)).e = 0 := by rw [tokAt_eq, hd]; exact he
       rw [lexF_eq s f _ (tokN_le hlt).2, tokN_len, ← List.drop_drop, hd]
     · rfl
theorem tLen_pos {l : List UInt8} (h : tE l = 0) : 0 < tLen l := by
 cases l with
 | nil => revert h; decide +kernel
 | cons c r =>
   unfold tLen twN
   split
   · rename_i hh
     rw [List.takeWhile_cons, if_pos (by simpa using in10_14 (show inB 10 c.toNat = true from hh))]; simp
   · rename_i h1
     split
     · rename_i hh
       rw [List.takeWhile_cons, if_pos (by simpa using (show inB 4 c.toNat = true from hh))]; simp
     · rename_i h2
       split
       · omega
       · rename_i h3
         unfold tE at h
         rw [if_neg h1, if_neg h2, if_neg h3] at h
         apply Decidable.byContradiction; intro hn
         have h0 : signL (c :: r) = 0 := by omega
         unfold sigE tText tLen at h
         rw [if_neg h1, if_neg h2, if_neg h3, h0, List.take_zero] at h
         revert h; decide +kernel
theorem lexL_fuel : ∀ (f g : Nat) (l : List UInt8) (a : Nat), l.length < f → l.length < g → lexL f l a = lexL g l a
 | 0, _, _, _, h, _ => by omega
 | _ + 1, 0, _, _, _, h => by omega
 | f + 1, g + 1, l, a, hf, hg => by
   have hs := (sk_suffix l false).length_le
   unfold lexL
   cases hsk : sk false l with
   | nil => rfl
   | cons c r =>
     rw [hsk] at hs
     simp only []
     split
     · rename_i he
       have := tLen_pos he
       have h0 : 0 < (c :: r).length := by simp
       rw [lexL_fuel f g _ _ (by rw [List.length_drop]; omega) (by rw [List.length_drop]; omega)]
     · rfl
def lexR (s : ByteArray) (a : Nat) : List Tk := lexF (s.size + 1) s a
theorem lexR_skip {s : ByteArray} {a b : Nat} (h : skN s a = skN s b) : lexR s a = lexR s b := by
 unfold lexR; rw [← lexF_skip, h, lexF_skip]
theorem lexR_blank {s : ByteArray} {a : Nat} (h : begB (inB 1) s a = true) : lexR s (a + 1) = lexR s a :=
 lexR_skip (by rw [← skN_blanks (a := a + 1), runN_step h, skN_blanks])
theorem lexR_line {s : ByteArray} {a : Nat} (h : begB (inB 16) s a = true) : lexR s (runN nlB s a) = lexR s a := lexR_skip (skN_line h)
theorem lexR_end {s : ByteArray} {a : Nat} (h : ¬ a < s.size) : lexR s a = [] := by
 unfold lexR lexF
 have hd : s.data.toList.drop a = [] := List.drop_eq_nil_of_le (by have : s.data.toList.length = s.size := rfl; omega)
 have hs : skN s a = s.size := by
   unfold skN; rw [hd]; rfl
 rw [hs, if_neg (by omega)]
theorem lexR_tok {s : ByteArray} {a : Nat} (ha : a < s.size) (h : begB (inB 17) s a = false) : lexR s a = if (tokAt s a).e = 0 then tokAt s a :: lexR s (tokN s a) else [tokAt s a] := by
 have hk := skN_stop (by omega : a ≤ s.size) h
 have hl : s.data.toList.length = s.size := rfl
 unfold lexR
 conv => lhs; unfold lexF
 rw [hk, if_pos ha]
 split
 · rename_i he
   have h1 := tokN_gt ha he
   have h2 := tokN_le ha
   rw [lexF_eq s s.size _ h2.2, lexF_eq s (s.size + 1) _ h2.2, lexL_fuel s.size (s.size + 1) _ _ (by rw [List.length_drop]; omega) (by rw [List.length_drop]; omega)]
 · rfl
theorem inB1 (c : Int) : inB 1 c = (c == 32 || (c == 9 || (c == 10 || c == 13))) := by
 by_cases h : c = 32 ∨ c = 9 ∨ c = 10 ∨ c = 13
 · rcases h with rfl | rfl | rfl | rfl <;> rfl
 · have e : (c == 32 || (c == 9 || (c == 10 || c == 13))) = false := by simp; omega
   rw [e]
   unfold inB clsI
   repeat' split
   all_goals first | rfl | (exfalso; omega)
theorem inB2 (c : Int) : inB 2 c = (decide (97 ≤ c) && decide (c ≤ 122) || decide (65 ≤ c) && decide (c ≤ 90)) := by
 by_cases h : (97 ≤ c ∧ c ≤ 122) ∨ (65 ≤ c ∧ c ≤ 90)
 · have e : (decide (97 ≤ c) && decide (c ≤ 122) || decide (65 ≤ c) && decide (c ≤ 90)) = true := by simp; omega
   rw [e]
   unfold inB; rw [cls_letter h]; rfl
 · have e : (decide (97 ≤ c) && decide (c ≤ 122) || decide (65 ≤ c) && decide (c ≤ 90)) = false := by
     rw [Bool.eq_false_iff]; intro h'; apply h; simpa using h'
   rw [e]
   unfold inB clsI
   repeat' split
   all_goals first | rfl | (exfalso; omega)
theorem inB4 (c : Int) : inB 4 c = (decide (48 ≤ c) && decide (c ≤ 57)) := by
 by_cases h : 48 ≤ c ∧ c ≤ 57
 · have e : (decide (48 ≤ c) && decide (c ≤ 57)) = true := by simp; omega
   rw [e]
   unfold inB; rw [cls_digit h]; rfl
 · have e : (decide (48 ≤ c) && decide (c ≤ 57)) = false := by
     rw [Bool.eq_false_iff]; intro h'; apply h; simpa using h'
   rw [e]
   unfold inB clsI
   repeat' split
   all_goals first | rfl | (exfalso; omega)
theorem inB8 (c : Int) : inB 8 c = (c == 95) := by
 by_cases h : c = 95
 · subst h; rfl
 · have e : (c == 95) = false := by simpa using h
   rw [e]
   unfold inB clsI
   repeat' split
   all_goals first | rfl | (exfalso; omega)
theorem inB16 (c : Int) : inB 16 c = (c == 37) := by
 by_cases h : c = 37
 · subst h; rfl
 · have e : (c == 37) = false := by simpa using h
   rw [e]
   unfold inB clsI
   repeat' split
   all_goals first | rfl | (exfalso; omega)
theorem inB32 (c : Int) : inB 32 c = (c == 35) := by
 by_cases h : c = 35
 · subst h; rfl
 · have e : (c == 35) = false := by simpa using h
   rw [e]
   unfold inB clsI
   repeat' split
   all_goals first | rfl | (exfalso; omega)
theorem inB10 (c : Int) : inB 10 c = (inB 2 c || inB 8 c) := by
 rcases cls_lit c with h | h | h | h | h | h | h <;> (unfold inB; rw [h]; rfl)
theorem inB14 (c : Int) : inB 14 c = (inB 2 c || (inB 4 c || inB 8 c)) := by
 rcases cls_lit c with h | h | h | h | h | h | h <;> (unfold inB; rw [h]; rfl)
theorem inB17 (c : Int) : inB 17 c = (inB 1 c || inB 16 c) := by
 rcases cls_lit c with h | h | h | h | h | h | h <;> (unfold inB; rw [h]; rfl)
theorem uint_ge : ∀ (l : List UInt8) (M acc u : Nat), Lib.parseUintM M acc l = .ok u → acc ≤ u
 | [], _, _, _, h => by simp only [Lib.parseUintM] at h; cases h; exact Nat.le_refl _
 | c :: r, M, acc, u, h => by
   simp only [Lib.parseUintM] at h
   split at h
   · split at h
     · cases h
     · split at h
       · cases h
       · have := uint_ge r M _ u h; omega
   · cases h
theorem uint_step {c : UInt8} {r : List UInt8} {acc : Nat} (hc : inB 4 c.toNat = true) (ha : acc ≤ 2147483647) : Lib.parseUintM (2 ^ 64 - 1) acc (c :: r) = Lib.parseUintM (2 ^ 64 - 1) (acc * 10 + (c.toNat - 48)) r := by
 have h := in4 hc
 conv => lhs; simp only [Lib.parseUintM]
 rw [if_pos h, if_neg (by omega), if_neg (by omega)]
theorem num_of {s : ByteArray} (h0 : 0 < s.size) (hd : ∀ c ∈ s.data.toList, inB 4 c.toNat = true) : numB s = match Lib.parseUintM (2 ^ 64 - 1) 0 s.data.toList with
   | .ok u => decide (u ≤ 2147483647) && !(s[0] == 48 && decide (1 < s.size))
   | _ => false := by
 have hl : s.data.toList = s[0] :: s.data.toList.drop 1 := by
   have := List.drop_eq_getElem_cons (l := s.data.toList) (i := 0) (by simpa using h0)
   rw [List.drop_zero] at this
   exact this
 have h48 := in4 (hd s[0] (by rw [hl]; exact List.mem_cons_self ..))
 have hp : Lib.parseIntB 64 s.data.toList = match Lib.parseUintM (2 ^ 64 - 1) 0 s.data.toList with
     | .ok u => if 2 ^ 63 ≤ u then .range else .ok (u : Int)
     | .range => .range
     | _ => Lib.parseIntB 64 [] := by
   rw [hl]
   unfold Lib.parseIntB Lib.parseUintB
   simp only [if_neg (show ¬ (s[0].toNat = 43 ∨ s[0].toNat = 45) by omega), if_neg (show ¬ (s[0] :: s.data.toList.drop 1) = [] by simp)]
   cases Lib.parseUintM (2 ^ 64 - 1) 0 (s[0] :: s.data.toList.drop 1) with
   | ok u => simp [show ¬ s[0].toNat = 45 by omega]
   | _ => rfl
 have hh : s.data.toList.headD 0 = s[0] := by rw [hl]; rfl
 unfold numB
 rw [hp, hh]
 cases Lib.parseUintM (2 ^ 64 - 1) 0 s.data.toList with
 | ok u =>
   simp only []
   by_cases h : 2 ^ 63 ≤ u
   · rw [if_pos h, decide_eq_false (show ¬ u ≤ 2147483647 by omega)]; rfl
   · rw [if_neg h]
     simp only []
     congr 1
     by_cases h2 : u ≤ 2147483647
     · rw [decide_eq_true h2, decide_eq_true (show (u : Int) ≤ 2147483647 by omega)]
     · rw [decide_eq_false h2, decide_eq_false (show ¬ (u : Int) ≤ 2147483647 by omega)]
 | _ => rfl
theorem num_big {s : ByteArray} {acc : Nat} {r : List UInt8} (h0 : 0 < s.size) (hd : ∀ c ∈ s.data.toList, inB 4 c.toNat = true) (h : Lib.parseUintM (2 ^ 64 - 1) 0 s.data.toList = Lib.parseUintM (2 ^ 64 - 1) acc r) (hb : ¬ acc ≤ 2147483647) : numB s = false := by
 rw [num_of h0 hd, h]
 cases hu : Lib.parseUintM (2 ^ 64 - 1) acc r with
 | ok u =>
   have := uint_ge _ _ _ _ hu
   simp only []
   rw [decide_eq_false (by omega)]; rfl
 | _ => rfl
theorem num_lead {s : ByteArray} (h0 : 0 < s.size) (hd : ∀ c ∈ s.data.toList, inB 4 c.toNat = true) (h1 : 1 < s.size) (h48 : s[0] = 48) : numB s = false := by
 rw [num_of h0 hd]
 cases Lib.parseUintM (2 ^ 64 - 1) 0 s.data.toList with
 | ok u => simp [h48, h1]
 | _ => rfl
theorem num_good {s : ByteArray} {acc : Nat} (h0 : 0 < s.size) (hd : ∀ c ∈ s.data.toList, inB 4 c.toNat = true) (h : Lib.parseUintM (2 ^ 64 - 1) 0 s.data.toList = Lib.parseUintM (2 ^ 64 - 1) acc []) (hb : acc ≤ 2147483647) (hz : ¬ 1 < s.size ∨ s[0] ≠ 48) : numB s = true := by
 rw [num_of h0 hd, h]
 simp only [Lib.parseUintM]
 rw [decide_eq_true hb]
 rcases hz with hz | hz
 · simp [hz]
 · simp [hz]
theorem sign_one {s : ByteArray} {a : Nat} (ha : a < s.size) (h2 : twoB ((s.data.toList.drop a).take 2) = false) : signL (s.data.toList.drop a) = if oneL.contains s[a] then 1 else 0 := by
 have hl := List.drop_eq_getElem_cons (l := s.data.toList) (i := a) (by simpa using ha)
 unfold signL
 rw [if_neg (by rw [h2]; simp), hl]
 rfl
theorem sign_last {s : ByteArray} {a : Nat} (ha : a < s.size) (h : ¬ a + 1 < s.size) : twoB ((s.data.toList.drop a).take 2) = false := by
 have hn : s.data.toList.length = s.size := rfl
 have hl := List.drop_eq_getElem_cons (l := s.data.toList) (i := a) (by simpa using ha)
 rw [hl, List.drop_eq_nil_of_le (i := a + 1) (by omega)]
 simp [twoB]
def cellsR : List Tk → List Value
 | [] => []
 | x :: r => [.int .i64 x.k, .string x.t, .int .i64 x.a] ++ cellsR r
theorem cellsR_append (a b : List Tk) : cellsR (a ++ b) = cellsR a ++ cellsR b := by
 induction a with
 | nil => rfl
 | cons x r ih => simp only [List.cons_append, cellsR, ih, List.nil_append]
end Go.Proofs.YtlmdhlckgbgfhaaGreatDoor
namespace Go.Proofs.YtlmdhlckgbgfhaaGreatDoor
open Go.RowKit

theorem rlower_any (c : Int) (w : World) :
   Calls Tryz.prog 198 #[.int .u8 c] w fun e w' => e = .returned (.bool (lowerB c)) ∧ w = w' := by
 by_cases h1 : 97 ≤ c <;> by_cases h2 : c ≤ 122
 all_goals
   go_enter Tryz.func198, Tryz.ntmps198
   go_wp2
   go_ret
   exact ⟨by unfold lowerB; first | (rw [decide_eq_true (by omega)]; simp; done) | (rw [decide_eq_false (by omega)]; simp; done) | (simp [h1, h2]; done) | (simp; omega), rfl⟩
theorem rupper_any (c : Int) (w : World) :
   Calls Tryz.prog 200 #[.int .u8 c] w fun e w' => e = .returned (.bool (upperB c)) ∧ w = w' := by
 by_cases h1 : 65 ≤ c <;> by_cases h2 : c ≤ 90
 all_goals
   go_enter Tryz.func200, Tryz.ntmps200
   go_wp2
   go_ret
   exact ⟨by unfold upperB; first | (rw [decide_eq_true (by omega)]; simp; done) | (rw [decide_eq_false (by omega)]; simp; done) | (simp [h1, h2]; done) | (simp; omega), rfl⟩
theorem rdigit_any (c : Int) (w : World) :
   Calls Tryz.prog 201 #[.int .u8 c] w fun e w' => e = .returned (.bool (digitB c)) ∧ w = w' := by
 by_cases h1 : 48 ≤ c <;> by_cases h2 : c ≤ 57
 all_goals
   go_enter Tryz.func201, Tryz.ntmps201
   go_wp2
   go_ret
   exact ⟨by unfold digitB; first | (rw [decide_eq_true (by omega)]; simp; done) | (rw [decide_eq_false (by omega)]; simp; done) | (simp [h1, h2]; done) | (simp; omega), rfl⟩

def undN (l : List UInt8) : Nat := (l.takeWhile (· == 95)).length
theorem undN_le (l : List UInt8) : undN l ≤ l.length := (List.takeWhile_prefix _).length_le
theorem drop_undN : ∀ l : List UInt8, l.drop (undN l) = l.dropWhile (· == 95)
 | [] => rfl
 | c :: r => by
   have := drop_undN r
   unfold undN at *
   cases h : (c == 95)
   · simp [h]
   · simp [h, this]
theorem undN_step {l : List UInt8} {k : Nat} (hk : k < l.length) (h : l[k] = 95) (hr : undN l = k + undN (l.drop k)) : undN l = (k + 1) + undN (l.drop (k + 1)) := by
 have hb : (l[k] == 95) = true := by rw [h]; rfl
 rw [hr, List.drop_eq_getElem_cons hk]
 unfold undN
 rw [List.takeWhile_cons, if_pos hb, List.length_cons]
 omega
theorem undN_stop {l : List UInt8} {k : Nat} (hk : k < l.length) (h : l[k] ≠ 95) (hr : undN l = k + undN (l.drop k)) : undN l = k := by
 have hb : ¬ (l[k] == 95) = true := by simpa using h
 rw [hr, List.drop_eq_getElem_cons hk]
 unfold undN
 rw [List.takeWhile_cons, if_neg hb]
 rfl
theorem undN_end {l : List UInt8} {k : Nat} (hk : ¬ k < l.length) (hr : undN l = k + undN (l.drop k)) : undN l = k := by
 rw [hr, List.drop_eq_nil_of_le (by omega)]
 rfl

theorem runder_any (s : ByteArray) (w : World) (hs : s.size ≤ maxLen) :
   Calls Tryz.prog 197 #[.string s] w fun e w' => e = .returned (.int .i64 (undN s.data.toList)) ∧ w = w' := by
 unfold maxLen at hs
 go_enter Tryz.func197, Tryz.ntmps197
 go_wp2
 go_loop [3] (fun i => ∃ k : Nat, k ≤ s.size ∧ i = .int .i64 k ∧ undN s.data.toList = k + undN (s.data.toList.drop k)) (fun i => s.size - (intOf i).toNat)
 case atStart => exact ⟨0, Nat.zero_le _, rfl, by simp⟩
 case round =>
   obtain ⟨k, hk, rfl, hr⟩ := hrel
   have hl : s.data.toList.length = s.size := by simp
   by_cases hlt : k < s.size
   · have hkl : k < s.data.toList.length := by rw [hl]; exact hlt
     have hg : s.data.toList[k]'hkl = s[k] := rfl
     by_cases h9 : s[k] = 95
     · have HS := Hi (undN_step hkl (hg.trans h9) hr); clear hr
       have h95 : (s[k].toNat : Int) = 95 := by rw [h9]; rfl
       go_wp2
       go_round
       case rel => exact ⟨k + 1, by omega, by go_num, HS.out⟩
       case measure => simp [intOf]; omega
     · have HS := Hi (undN_stop hkl (fun e => h9 (hg.symm.trans e)) hr); clear hr
       have h95 : ((s[k].toNat : Int) == 95) = false := by
         rw [beq_eq_false_iff_ne]; intro e; apply h9
         apply UInt8.toNat_inj.1; show s[k].toNat = 95; omega
       go_wp2
       go_ret
       exact ⟨by rw [HS.out]; rfl, rfl⟩
   · have HS := Hi (undN_end (by rw [hl]; exact hlt) hr); clear hr
     go_wp2
     go_ret
     exact ⟨by rw [HS.out]; rfl, rfl⟩
def rwordB (s : ByteArray) (n : Nat) : Bool := ((s.data.toList.drop n).all fun b => wordB b.toNat) && decide (s.size ≤ 32)
theorem all_drop {l : List UInt8} {p : UInt8 → Bool} {k : Nat} (hk : k < l.length) : (l.drop k).all p = (p l[k] && (l.drop (k + 1)).all p) := by
 rw [List.drop_eq_getElem_cons hk, List.all_cons]

theorem rword_any (s : ByteArray) (n : Nat) (w : World) (hs : s.size ≤ maxLen) (hn : n ≤ s.size) :
   Calls Tryz.prog 199 #[.string s, .int .i64 n] w fun e w' => e = .returned (.bool (rwordB s n)) ∧ w = w' := by
 unfold maxLen at hs
 have hR : rwordB s n = (((s.data.toList.drop n).all fun b => wordB b.toNat) && decide (s.size ≤ 32)) := rfl
 have HD := Hi hR; clear hR
 go_enter Tryz.func199, Tryz.ntmps199
 go_wp2
 go_loop [5] (fun i => ∃ k : Nat, n ≤ k ∧ k ≤ s.size ∧ i = .int .i64 k ∧ ((s.data.toList.drop n).all fun b => wordB b.toNat) = ((s.data.toList.drop k).all fun b => wordB b.toNat)) (fun i => s.size - (intOf i).toNat)
 case atStart => exact ⟨n, Nat.le_refl _, hn, rfl, rfl⟩
 case round =>
   obtain ⟨k, hnk, hk, rfl, hr⟩ := hrel
   have hl : s.data.toList.length = s.size := by simp
   by_cases hlt : k < s.size
   · have hkl : k < s.data.toList.length := by rw [hl]; exact hlt
     have hg : s.data.toList[k]'hkl = s[k] := rfl
     rw [all_drop hkl, hg] at hr
     have hw : wordB s[k].toNat = (lowerB s[k].toNat || upperB s[k].toNat || digitB s[k].toNat || decide ((s[k].toNat : Int) = 95)) := rfl
     have HR := Hi hr; clear hr
     by_cases h4 : (s[k].toNat : Int) = 95
     · have HW := Hi (show wordB s[k].toNat = true by rw [hw, h4]; rfl); clear hw
       have e1 : lowerB 95 = false := rfl
       have e2 : upperB 95 = false := rfl
       have e3 : digitB 95 = false := rfl
       go_wp2_with (first
         | (go_at_call 198; refine (rlower_any _ _).mono ?_; rintro e w' ⟨rfl, rfl⟩)
         | (go_at_call 200; refine (rupper_any _ _).mono ?_; rintro e w' ⟨rfl, rfl⟩)
         | (go_at_call 201; refine (rdigit_any _ _).mono ?_; rintro e w' ⟨rfl, rfl⟩))
       go_round
       case rel => exact ⟨k + 1, by omega, by omega, by go_num, by rw [HR.out, HW.out]; rfl⟩
       case measure => simp [intOf]; omega
     have h5 : ((s[k].toNat : Int) == 95) = false := by simpa using h4
     cases h1 : lowerB s[k].toNat <;> cases h2 : upperB s[k].toNat <;> cases h3 : digitB s[k].toNat
     all_goals
       simp only [h1, h2, h3, h4, Bool.or_true, Bool.or_false, decide_false] at hw
       have HW := Hi hw; clear hw
       go_wp2_with (first
         | (go_at_call 198; refine (rlower_any _ _).mono ?_; rintro e w' ⟨rfl, rfl⟩)
         | (go_at_call 200; refine (rupper_any _ _).mono ?_; rintro e w' ⟨rfl, rfl⟩)
         | (go_at_call 201; refine (rdigit_any _ _).mono ?_; rintro e w' ⟨rfl, rfl⟩))
       first
         | (go_round
            case rel => exact ⟨k + 1, by omega, by omega, by go_num, by rw [HR.out, HW.out]; rfl⟩
            case measure => simp [intOf]; omega)
         | (go_ret
            exact ⟨by rw [HD.out, HR.out, HW.out]; rfl, rfl⟩)
   · have hz : s.data.toList.drop k = [] := List.drop_eq_nil_of_le (by rw [hl]; omega)
     rw [hz] at hr
     have HR := Hi hr; clear hr
     by_cases h32 : s.size ≤ 32
     all_goals
       have H32 := Hi h32
       go_wp2
       go_ret
       exact ⟨by rw [HD.out, HR.out]; first | (rw [decide_eq_true (by omega : (s.size : Int) ≤ 32), decide_eq_true h32]; rfl) | (rw [decide_eq_false (by omega : ¬ (s.size : Int) ≤ 32), decide_eq_false h32]; rfl) | (simp [h32]; omega), rfl⟩
theorem rword_named {st : Int → Bool} {s : ByteArray} : namedB st s = match s.data.toList.drop (undN s.data.toList) with
   | [] => false
   | c :: _ => st c.toNat && (s.data.toList.drop (undN s.data.toList)).all fun b => wordB b.toNat := by
 unfold namedB Lib.trimLeftB
 rw [drop_undN]
 cases s.data.toList.dropWhile (· == 95) with
 | nil => rfl
 | cons c r => simp [namedL, allB]

theorem rsymbol_any (s : ByteArray) (w : World) (hs : s.size ≤ maxLen) :
   Calls Tryz.prog 174 #[.string s] w fun e w' => e = .returned (.bool (symbolB s)) ∧ w = w' := by
 have hl : s.data.toList.length = s.size := by simp
 obtain ⟨n, hn⟩ : ∃ n, undN s.data.toList = n := ⟨_, rfl⟩
 have hle : n ≤ s.size := by rw [← hn, ← hl]; exact undN_le _
 have hd : symbolB s = (decide (s.size ≤ 32) && !(s.toList == [110, 111, 116]) && namedB lowerB s) := rfl
 rw [rword_named, hn] at hd
 have HS := Hi hs
 have HWD := Hi (rword_any s n w hs hle)
 have hu := runder_any s w hs
 rw [hn] at hu
 have HU := Hi hu
 clear hu
 have hR : rwordB s n = (((s.data.toList.drop n).all fun b => wordB b.toNat) && decide (s.size ≤ 32)) := rfl
 unfold maxLen at hs
 by_cases hlt : n < s.size
 · have hkl : n < s.data.toList.length := by rw [hl]; exact hlt
   have hg : s.data.toList[n]'hkl = s[n] := rfl
   have hc : (match s.data.toList.drop n with
     | [] => false
     | c :: _ => lowerB c.toNat && (s.data.toList.drop n).all fun b => wordB b.toNat) = (lowerB s[n].toNat && (s.data.toList.drop n).all fun b => wordB b.toNat) := by
     rw [List.drop_eq_getElem_cons hkl, hg]
   rw [hc] at hd
   clear hc hg
   cases h1 : lowerB s[n].toNat <;> cases h2 : ((s.data.toList.drop n).all fun b => wordB b.toNat) <;> by_cases h3 : s.size ≤ 32 <;> cases h4 : (s.toList == [110, 111, 116])
   all_goals
     rw [h2] at hR
     rw [h1, h2, h4] at hd
     first | rw [decide_eq_true h3] at hR hd | rw [decide_eq_false h3] at hR hd
     have HD := Hi hd
     have HR := Hi hR
     have H3 := Hi h3
     clear hd hR h2 h3
     go_enter Tryz.func174, Tryz.ntmps174
     go_wp2_with (first
       | (go_at_call 197; refine HU.out.mono ?_; rintro e w' ⟨rfl, rfl⟩)
       | (go_at_call 198; refine (rlower_any _ _).mono ?_; rintro e w' ⟨rfl, rfl⟩)
       | (go_at_call 199; refine HWD.out.mono ?_; rintro e w' ⟨rfl, rfl⟩; rw [HR.out]))
     go_ret
     exact ⟨by rw [HD.out]; rfl, rfl⟩
 · have hz : s.data.toList.drop n = [] := List.drop_eq_nil_of_le (by rw [hl]; omega)
   rw [hz] at hd
   have HD := Hi hd
   clear hd hz hR HWD
   go_enter Tryz.func174, Tryz.ntmps174
   go_wp2_with (go_at_call 197; refine HU.out.mono ?_; rintro e w' ⟨rfl, rfl⟩)
   go_ret
   exact ⟨by rw [HD.out]; simp, rfl⟩
end Go.Proofs.YtlmdhlckgbgfhaaGreatDoor
namespace Go.Proofs.YtlmdhlckgbgfhaaGreatDoor
open Go.RowKit

def anonB (s : ByteArray) : Bool := Lib.hasPrefix s.data.toList [95] && allB digitB ⟨(Lib.trimPrefix s.data.toList [95]).toArray⟩
theorem anon_eq (s : ByteArray) : anonB s = (decide (1 ≤ undN s.data.toList) && (s.data.toList.drop 1).all fun b => digitB b.toNat) := by
 unfold anonB
 generalize s.data.toList = l
 cases l with
 | nil => rfl
 | cons c r =>
   by_cases h : c = 95
   · subst h
     simp [Lib.hasPrefix, Lib.trimPrefix, allB, undN, List.isPrefixOf]
   · have h1 : (c == 95) = false := by simpa using h
     have h2 : ((95 : UInt8) == c) = false := by rw [beq_eq_false_iff_ne]; exact fun e => h e.symm
     simp [Lib.hasPrefix, undN, List.isPrefixOf, h1, h2]
theorem anon_many (s : ByteArray) (h : undN s.data.toList ≠ 1) : anonB s = false := by
 rw [anon_eq]
 revert h
 generalize s.data.toList = l
 intro h
 match l with
 | [] => rfl
 | [c] =>
   by_cases hc : c = 95
   · subst hc; exact absurd rfl h
   · have h1 : (c == 95) = false := by simpa using hc
     simp [undN, h1]
 | c :: d :: r =>
   by_cases hc : c = 95
   · by_cases hd : d = 95
     · subst hd
       have h9 : digitB 95 = false := rfl
       simp [h9]
     · have h1 : (d == 95) = false := by simpa using hd
       subst hc
       exact absurd (by simp [undN, h1]) h
   · have h1 : (c == 95) = false := by simpa using hc
     simp [undN, h1]
theorem anon_upper (s : ByteArray) (n : Nat) (hn : undN s.data.toList = n) (hk : n < s.data.toList.length) (hu : upperB (s.data.toList[n].toNat) = true) : anonB s = false := by
 by_cases h1 : n = 1
 · rw [anon_eq, hn]
   subst h1
   rw [List.drop_eq_getElem_cons hk, List.all_cons]
   have : digitB (s.data.toList[1].toNat) = false := by
     unfold upperB at hu
     unfold digitB
     simp only [Bool.and_eq_true, decide_eq_true_eq] at hu
     simp only [Bool.and_eq_false_iff, decide_eq_false_iff_not]
     omega
   rw [this]
   simp
 · exact anon_many s (by rw [hn]; exact h1)

theorem named_at {st : Int → Bool} {s : ByteArray} {n : Nat} (hn : undN s.data.toList = n) (hk : n < s.data.toList.length) : namedB st s = (st s.data.toList[n].toNat && (s.data.toList.drop n).all fun b => wordB b.toNat) := by
 rw [rword_named, hn, List.drop_eq_getElem_cons hk]
theorem named_none {st : Int → Bool} {s : ByteArray} {n : Nat} (hn : undN s.data.toList = n) (hz : s.data.toList.drop n = []) : namedB st s = false := by
 rw [rword_named, hn, hz]

theorem rvariable_any (s : ByteArray) (w : World) (hs : s.size ≤ maxLen) :
   Calls Tryz.prog 175 #[.string s] w fun e w' => e = .returned (.bool (variableB s)) ∧ w = w' := by
 have hl : s.data.toList.length = s.size := by simp
 obtain ⟨n, hn⟩ : ∃ n, undN s.data.toList = n := ⟨_, rfl⟩
 have hle : n ≤ s.size := by rw [← hn, ← hl]; exact undN_le _
 have hd : variableB s = (decide (s.size ≤ 32) && (namedB upperB s || anonB s)) := rfl
 have HS := Hi hs
 have HWD := Hi (rword_any s n w hs hle)
 have hu := runder_any s w hs
 rw [hn] at hu
 have HU := Hi hu
 clear hu
 have hR : rwordB s n = (((s.data.toList.drop n).all fun b => wordB b.toNat) && decide (s.size ≤ 32)) := rfl
 unfold maxLen at hs
 have rest : ∀ (hd : variableB s = (decide (s.size ≤ 32) && anonB s)) (hup : ∀ h : n < s.size, upperB s[n].toNat = false),
     Calls Tryz.prog 175 #[.string s] w fun e w' => e = .returned (.bool (variableB s)) ∧ w = w' := by
   intro hd2 hup
   clear hd
   have hd := hd2
   clear hd2
   by_cases h1 : n = 1
   · rw [anon_eq, hn, h1] at hd
     subst h1
     have hd' : variableB s = (decide (s.size ≤ 32) && (s.data.toList.drop 1).all fun b => digitB b.toNat) := by rw [decide_eq_true (Nat.le_refl 1), Bool.true_and] at hd; exact hd
     clear hd hR HWD
     by_cases h32 : s.size ≤ 32
     · rw [decide_eq_true h32, Bool.true_and] at hd'
       have HD := Hi hd'
       clear hd'
       by_cases hlt : 1 < s.size
       all_goals
         first | have hf := hup hlt | skip
         clear hup
         go_enter Tryz.func175, Tryz.ntmps175
         go_wp2_with (first
           | (go_at_call 197; refine HU.out.mono ?_; rintro e w' ⟨rfl, rfl⟩)
           | (go_at_call 200; refine (rupper_any _ _).mono ?_; rintro e w' ⟨rfl, rfl⟩))
         go_loop [4] (fun i => ∃ k : Nat, 1 ≤ k ∧ k ≤ s.size ∧ i = .int .i64 k ∧ ((s.data.toList.drop 1).all fun b => digitB b.toNat) = ((s.data.toList.drop k).all fun b => digitB b.toNat)) (fun i => s.size - (intOf i).toNat)
         case atStart => exact ⟨1, Nat.le_refl _, hle, rfl, rfl⟩
         case round =>
           obtain ⟨k, hnk, hk, rfl, hr⟩ := hrel
           by_cases hlk : k < s.size
           · have hkl : k < s.data.toList.length := by rw [hl]; exact hlk
             have hg : s.data.toList[k]'hkl = s[k] := rfl
             rw [all_drop hkl, hg] at hr
             have HR := Hi hr; clear hr
             cases h1 : digitB s[k].toNat
             · have H1 := Hi h1
               go_wp2_with (go_at_call 201; refine (rdigit_any _ _).mono ?_; rintro e w' ⟨rfl, rfl⟩)
               go_ret
               exact ⟨by rw [HD.out, HR.out, H1.out]; rfl, rfl⟩
             · have H1 := Hi h1
               go_wp2_with (go_at_call 201; refine (rdigit_any _ _).mono ?_; rintro e w' ⟨rfl, rfl⟩)
               go_round
               case rel => exact ⟨k + 1, by omega, by omega, by go_num, by rw [HR.out, H1.out]; rfl⟩
               case measure => simp [intOf]; omega
           · have hz : s.data.toList.drop k = [] := List.drop_eq_nil_of_le (by rw [hl]; omega)
             rw [hz] at hr
             have HR := Hi hr; clear hr
             go_wp2
             go_ret
             exact ⟨by rw [HD.out, HR.out]; rfl, rfl⟩
     · rw [decide_eq_false h32, Bool.false_and] at hd'
       have HD := Hi hd'
       clear hd'
       by_cases hlt : 1 < s.size
       · have hf := hup hlt
         clear hup
         go_enter Tryz.func175, Tryz.ntmps175
         go_wp2_with (first
           | (go_at_call 197; refine HU.out.mono ?_; rintro e w' ⟨rfl, rfl⟩)
           | (go_at_call 200; refine (rupper_any _ _).mono ?_; rintro e w' ⟨rfl, rfl⟩))
         go_ret
         exact ⟨by rw [HD.out]; rfl, rfl⟩
       · exfalso; omega
   · rw [anon_many s (by rw [hn]; exact h1), Bool.and_false] at hd
     have HD := Hi hd
     have h1' : ((n : Int) == 1) = false := by rw [beq_eq_false_iff_ne]; omega
     clear hd hR HWD
     by_cases hlt : n < s.size
     · have hf := hup hlt
       clear hup
       go_enter Tryz.func175, Tryz.ntmps175
       go_wp2_with (first
         | (go_at_call 197; refine HU.out.mono ?_; rintro e w' ⟨rfl, rfl⟩)
         | (go_at_call 200; refine (rupper_any _ _).mono ?_; rintro e w' ⟨rfl, rfl⟩))
       go_ret
       exact ⟨by rw [HD.out]; rfl, rfl⟩
     · clear hup
       go_enter Tryz.func175, Tryz.ntmps175
       go_wp2_with (go_at_call 197; refine HU.out.mono ?_; rintro e w' ⟨rfl, rfl⟩)
       go_ret
       exact ⟨by rw [HD.out]; rfl, rfl⟩
 by_cases hlt : n < s.size
 · have hkl : n < s.data.toList.length := by rw [hl]; exact hlt
   have hg : s.data.toList[n]'hkl = s[n] := rfl
   rw [named_at hn hkl, hg] at hd
   cases h1 : upperB s[n].toNat
   · rw [h1, Bool.false_and, Bool.false_or] at hd
     exact rest hd (fun _ => h1)
   · have hz := anon_upper s n hn hkl (by rw [hg]; exact h1)
     rw [hz, h1, Bool.true_and, Bool.or_false, Bool.and_comm] at hd
     rw [← hd] at hR
     have HR := Hi hR
     clear hR hd hz rest hg
     go_enter Tryz.func175, Tryz.ntmps175
     go_wp2_with (first
       | (go_at_call 197; refine HU.out.mono ?_; rintro e w' ⟨rfl, rfl⟩)
       | (go_at_call 200; refine (rupper_any _ _).mono ?_; rintro e w' ⟨rfl, rfl⟩)
       | (go_at_call 199; refine HWD.out.mono ?_; rintro e w' ⟨rfl, rfl⟩; rw [HR.out]))
     go_ret
     exact ⟨rfl, rfl⟩
 · have hz : s.data.toList.drop n = [] := List.drop_eq_nil_of_le (by rw [hl]; omega)
   rw [named_none hn hz, Bool.false_or] at hd
   exact rest hd (fun h => absurd h hlt)
end Go.Proofs.YtlmdhlckgbgfhaaGreatDoor
namespace Go.Proofs.YtlmdhlckgbgfhaaGreatDoor
open Go.RowKit

theorem rblank_any (c : Int) (w : World) :
   Calls Tryz.prog 144 #[.int .u8 c] w fun e w' => e = .returned (.bool (inB 1 c)) ∧ w = w' := by
 have H1 := Hi (inB1 c)
 cases h1 : (c == 32) <;> cases h2 : (c == 9) <;> cases h3 : (c == 10) <;> cases h4 : (c == 13)
 all_goals
   have HF := H1.out
   rw [h1, h2, h3, h4] at HF
   have HG := Hi HF
   clear HF
   go_enter Tryz.func144, Tryz.ntmps144
   go_wp2
   go_ret
   exact ⟨by rw [HG.out]; rfl, rfl⟩

theorem rletter_any (c : Int) (w : World) :
   Calls Tryz.prog 145 #[.int .u8 c] w fun e w' => e = .returned (.bool (inB 2 c)) ∧ w = w' := by
 have H2 := Hi (inB2 c)
 by_cases h1 : 97 ≤ c <;> by_cases h2 : c ≤ 122 <;> by_cases h3 : 65 ≤ c <;> by_cases h4 : c ≤ 90
 all_goals
   go_enter Tryz.func145, Tryz.ntmps145
   go_wp2
   go_ret
   exact ⟨by rw [H2.out]; simp [h1, h2, h3, h4], rfl⟩

theorem rdigit3_any (c : Int) (w : World) :
   Calls Tryz.prog 146 #[.int .u8 c] w fun e w' => e = .returned (.bool (inB 4 c)) ∧ w = w' := by
 have H2 := Hi (inB4 c)
 by_cases h1 : 48 ≤ c <;> by_cases h2 : c ≤ 57
 all_goals
   go_enter Tryz.func146, Tryz.ntmps146
   go_wp2
   go_ret
   exact ⟨by rw [H2.out]; simp [h1, h2], rfl⟩

theorem rword3_any (s : ByteArray) (w : World) (hs : s.size ≤ maxLen) :
   Calls Tryz.prog 147 #[.string s] w fun e w' => e = .returned (.int .i64 (wordK s)) ∧ w = w' := by
 have HS := Hi (fun w => rsymbol_any s w hs)
 have HV := Hi (fun w => rvariable_any s w hs)
 cases h1 : (s.toList == [110, 111, 116]) <;> cases h2 : symbolB s <;> cases h3 : variableB s
 all_goals
   have HN := Hi (show notB s = _ from h1)
   have H2 := Hi h2
   have H3 := Hi h3
   rw [h2] at HS
   rw [h3] at HV
   clear h2 h3
   go_enter Tryz.func147, Tryz.ntmps147
   go_wp2_with (first
     | (go_at_call 174; refine (HS.out _).mono ?_; rintro e w' ⟨rfl, rfl⟩)
     | (go_at_call 175; refine (HV.out _).mono ?_; rintro e w' ⟨rfl, rfl⟩))
   go_ret
   exact ⟨by unfold wordK; rw [HN.out, H2.out, H3.out]; rfl, rfl⟩

theorem rnumber_any (s : ByteArray) (w : World) (hs : s.size ≤ maxLen) (h0 : 0 < s.size) (hd : ∀ c ∈ s.data.toList, inB 4 c.toNat = true) :
   Calls Tryz.prog 148 #[.string s] w fun e w' => e = .returned (.bool (numB s)) ∧ w = w' := by
 unfold maxLen at hs
 have HB := Hi (fun acc r h hb => num_big (s := s) (acc := acc) (r := r) h0 hd h hb)
 have HL := Hi (fun h1 h48 => num_lead (s := s) h0 hd h1 h48)
 have HG := Hi (fun acc h hb hz => num_good (s := s) (acc := acc) h0 hd h hb hz)
 have HD := Hi hd
 clear hd
 go_enter Tryz.func148, Tryz.ntmps148
 go_wp2
 go_loop [3, 4] (fun n i => ∃ k acc : Nat, k ≤ s.size ∧ n = .int .i64 acc ∧ i = .int .i64 k ∧ acc ≤ 2147483647 ∧ Lib.parseUintM (2 ^ 64 - 1) 0 s.data.toList = Lib.parseUintM (2 ^ 64 - 1) acc (s.data.toList.drop k) ∧ (¬ 1 < k ∨ s[0] ≠ 48)) (fun _ i => s.size - (intOf i).toNat)
 case atStart => exact ⟨0, 0, Nat.zero_le _, rfl, rfl, by omega, by simp, .inl (by omega)⟩
 case round =>
   obtain ⟨k, acc, hk, rfl, rfl, hacc, hr, hz⟩ := hrel
   have hl : s.data.toList.length = s.size := rfl
   by_cases hlt : k < s.size
   · have hkl : k < s.data.toList.length := by rw [hl]; exact hlt
     have hin : inB 4 (s[k]'hlt).toNat = true := HD.out s[k] (List.getElem_mem (l := s.data.toList) hkl)
     have hb : 48 ≤ (s[k]'hlt).toNat ∧ (s[k]'hlt).toNat ≤ 57 := in4 hin
     rw [List.drop_eq_getElem_cons hkl] at hr
     have hr' : Lib.parseUintM (2 ^ 64 - 1) 0 s.data.toList = Lib.parseUintM (2 ^ 64 - 1) (acc * 10 + ((s[k]'hlt).toNat - 48)) (s.data.toList.drop (k + 1)) := hr.trans (uint_step (c := s[k]) (r := s.data.toList.drop (k + 1)) hin hacc)
     have hR := Hi hr'
     have hZ := Hi hz
     clear hr hr' hz hin hl hkl
     have b1 : (48 : Int) ≤ (s[k].toNat : Int) := by omega
     have b2 : (s[k].toNat : Int) ≤ 57 := by omega
     have hcast : (((acc * 10 + (s[k].toNat - 48) : Nat)) : Int) = (acc : Int) * 10 + ((s[k].toNat : Int) - 48) := by omega
     have HC := Hi hcast
     by_cases hbig : acc * 10 + (s[k].toNat - 48) ≤ 2147483647
     · have e1 : decide ((2147483647 : Int) < (acc : Int) * 10 + ((s[k].toNat : Int) - 48)) = false := by simp; omega
       by_cases hk0 : 0 < k
       · have e2 : decide ((0 : Int) < (k : Int)) = true := by simp; omega
         by_cases h48 : s[0] = 48
         · have e3 : ((s[0].toNat : Int) == 48) = true := by rw [h48]; rfl
           have HF := Hi (HL.out (by omega) h48)
           clear h48
           go_wp2
           go_ret
           exact ⟨by rw [HF.out]; rfl, rfl⟩
         · have e3 : ((s[0].toNat : Int) == 48) = false := by
             rw [beq_eq_false_iff_ne]; intro e; apply h48
             apply UInt8.toNat_inj.1; show s[0].toNat = 48; omega
           have H48 := Hi h48
           clear h48
           go_wp2
           go_round
           case rel => exact ⟨k + 1, acc * 10 + (s[k].toNat - 48), by omega, by rw [HC.out], by go_num, hbig, hR.out, .inr H48.out⟩
           case measure => simp [intOf]; omega
       · have e2 : decide ((0 : Int) < (k : Int)) = false := by simp; omega
         go_wp2
         go_round
         case rel => exact ⟨k + 1, acc * 10 + (s[k].toNat - 48), by omega, by rw [HC.out], by go_num, hbig, hR.out, .inl (by omega)⟩
         case measure => simp [intOf]; omega
     · have e1 : decide ((2147483647 : Int) < (acc : Int) * 10 + ((s[k].toNat : Int) - 48)) = true := by simp; omega
       have HF := Hi (HB.out _ _ hR.out hbig)
       go_wp2
       go_ret
       exact ⟨by rw [HF.out]; rfl, rfl⟩
   · have hz0 : s.data.toList.drop k = [] := List.drop_eq_nil_of_le (by rw [hl]; omega)
     rw [hz0] at hr
     have HF := Hi (HG.out acc hr hacc (by rcases hz with h | h; exact .inl (by omega); exact .inr h))
     clear hr hz hz0 hl
     go_wp2
     go_ret
     exact ⟨by rw [HF.out]; rfl, rfl⟩

theorem one_at {A : ByteArray} (hA : A = ⟨oneL.toArray⟩) (c : UInt8) {k : Nat} (hk : k < A.size) (h : A[k] = c) : oneL.contains c = true := by
 subst hA
 rw [List.contains_iff_mem, ← h]
 exact List.getElem_mem (l := oneL) _
theorem one_none {A : ByteArray} (hA : A = ⟨oneL.toArray⟩) (c : UInt8) (h : ∀ (j : Nat) (hj : j < A.size), A[j] ≠ c) : oneL.contains c = false := by
 subst hA
 rw [Bool.eq_false_iff]
 intro hc
 rw [List.contains_iff_mem] at hc
 obtain ⟨j, hj, e⟩ := List.getElem_of_mem hc
 exact h j hj e
theorem two_list {s : ByteArray} {a : Nat} : (s.extract a (a + 2)).toList = (s.data.toList.drop a).take 2 := by
 rw [toList_data, ext_list, Nat.add_sub_cancel_left]

theorem rsign_any (s : ByteArray) (a : Nat) (w : World) (hs : s.size ≤ maxLen) (ha : a < s.size) :
   Calls Tryz.prog 149 #[.string s, .int .i64 a] w fun e w' => e = .returned (.int .i64 (signL (s.data.toList.drop a) : Nat)) ∧ ∃ n, w' = w.drewN n := by
 unfold maxLen at hs
 by_cases h2 : a + 1 < s.size
 · have HD : twoB ((s.data.toList.drop a).take 2) = (((s.extract a (a + 2)).toList == [58, 45]) || ((s.extract a (a + 2)).toList == [58, 126]) || ((s.extract a (a + 2)).toList == [46, 46]) || ((s.extract a (a + 2)).toList == [33, 61]) || ((s.extract a (a + 2)).toList == [60, 61]) || ((s.extract a (a + 2)).toList == [62, 61])) := by rw [two_list]; rfl
   have HT0 : twoB ((s.data.toList.drop a).take 2) = true → signL (s.data.toList.drop a) = 2 := fun h => by unfold signL; rw [if_pos h]
   have HN0 := sign_one (s := s) ha
   have h2' : decide ((a : Int) + 1 < (s.size : Int)) = true := by simp; omega
   cases q0 : ((s.extract a (a + 2)).toList == [58, 45])
   rotate_left
   · skip
     have HT := Hi (HT0 (by rw [HD, q0]; rfl))
     clear HD HT0 HN0
     go_enter Tryz.func149, Tryz.ntmps149
     go_wp2
     go_ret
     exact ⟨by rw [HT.out]; rfl, 0, rfl⟩
   cases q1 : ((s.extract a (a + 2)).toList == [58, 126])
   rotate_left
   · skip
     have HT := Hi (HT0 (by rw [HD, q0, q1]; rfl))
     clear HD HT0 HN0
     go_enter Tryz.func149, Tryz.ntmps149
     go_wp2
     go_ret
     exact ⟨by rw [HT.out]; rfl, 0, rfl⟩
   cases q2 : ((s.extract a (a + 2)).toList == [46, 46])
   rotate_left
   · skip
     have HT := Hi (HT0 (by rw [HD, q0, q1, q2]; rfl))
     clear HD HT0 HN0
     go_enter Tryz.func149, Tryz.ntmps149
     go_wp2
     go_ret
     exact ⟨by rw [HT.out]; rfl, 0, rfl⟩
   cases q3 : ((s.extract a (a + 2)).toList == [33, 61])
   rotate_left
   · skip
     have HT := Hi (HT0 (by rw [HD, q0, q1, q2, q3]; rfl))
     clear HD HT0 HN0
     go_enter Tryz.func149, Tryz.ntmps149
     go_wp2
     go_ret
     exact ⟨by rw [HT.out]; rfl, 0, rfl⟩
   cases q4 : ((s.extract a (a + 2)).toList == [60, 61])
   rotate_left
   · skip
     have HT := Hi (HT0 (by rw [HD, q0, q1, q2, q3, q4]; rfl))
     clear HD HT0 HN0
     go_enter Tryz.func149, Tryz.ntmps149
     go_wp2
     go_ret
     exact ⟨by rw [HT.out]; rfl, 0, rfl⟩
   cases q5 : ((s.extract a (a + 2)).toList == [62, 61])
   rotate_left
   · skip
     have HT := Hi (HT0 (by rw [HD, q0, q1, q2, q3, q4, q5]; rfl))
     clear HD HT0 HN0
     go_enter Tryz.func149, Tryz.ntmps149
     go_wp2
     go_ret
     exact ⟨by rw [HT.out]; rfl, 0, rfl⟩
   have HN := Hi (HN0 (by rw [HD, q0, q1, q2, q3, q4, q5]; rfl))
   clear HD HT0 HN0
   go_enter Tryz.func149, Tryz.ntmps149
   go_wp2
   obtain ⟨A, hA⟩ : ∃ A : ByteArray, A = ⟨#[58, 46, 44, 59, 124, 40, 41, 123, 125, 91, 93, 61, 60, 62, 43, 45, 42, 47, 92, 64]⟩ := ⟨_, rfl⟩
   rw [← hA]
   have hsz : A.size = 20 := by rw [hA]; rfl
   have HA := Hi (show A = ⟨oneL.toArray⟩ from hA)
   clear hA
   go_loopw [7] (fun i wr => ∃ k n : Nat, k ≤ A.size ∧ i = .int .i64 k ∧ wr = w.drewN n ∧ ∀ (j : Nat) (hj : j < A.size), j < k → A[j] ≠ s[a]) (fun i _ => A.size - (intOf i).toNat)
   case atStart => exact ⟨0, 0, Nat.zero_le _, rfl, rfl, fun j _ h => by omega⟩
   case round =>
     obtain ⟨k, n, hk, rfl, rfl, hr⟩ := hrel
     have HR := Hi hr
     clear hr
     by_cases hlk : k < A.size
     · by_cases hc : A[k] = s[a]
       · have HO := Hi (one_at HA.out s[a] hlk hc)
         have e1 : ((A[k].toNat : Int) == (s[a].toNat : Int)) = true := by rw [hc]; simp
         clear hc
         go_wp2_with fail
         go_quiet (fail)
         go_wp2_with fail
         go_ret
         exact ⟨by rw [HN.out, HO.out]; rfl, _, World.drewN_drewN _ _ _⟩
       · have e1 : ((A[k].toNat : Int) == (s[a].toNat : Int)) = false := by
           rw [beq_eq_false_iff_ne]; intro e; apply hc
           apply UInt8.toNat_inj.1; omega
         have HC := Hi hc
         clear hc
         go_wp2_with fail
         go_quiet (fail)
         go_wp2_with fail
         go_roundw
         case rel => exact ⟨k + 1, _, by omega, by go_num, rfl, fun j hj hjk => by
           by_cases e : j = k
           · subst e; exact HC.out
           · exact HR.out j hj (by omega)⟩
         case measure => simp [intOf]; omega
     · have HO := Hi (one_none HA.out s[a] (fun j hj => HR.out j hj (by omega)))
       go_wp2
       go_ret
       exact ⟨by rw [HN.out, HO.out]; rfl, _, rfl⟩
 · have HN := Hi (sign_one (s := s) ha (sign_last ha h2))
   have h2' : decide ((a : Int) + 1 < (s.size : Int)) = false := by simp; omega
   go_enter Tryz.func149, Tryz.ntmps149
   go_wp2
   obtain ⟨A, hA⟩ : ∃ A : ByteArray, A = ⟨#[58, 46, 44, 59, 124, 40, 41, 123, 125, 91, 93, 61, 60, 62, 43, 45, 42, 47, 92, 64]⟩ := ⟨_, rfl⟩
   rw [← hA]
   have hsz : A.size = 20 := by rw [hA]; rfl
   have HA := Hi (show A = ⟨oneL.toArray⟩ from hA)
   clear hA
   go_loopw [7] (fun i wr => ∃ k n : Nat, k ≤ A.size ∧ i = .int .i64 k ∧ wr = w.drewN n ∧ ∀ (j : Nat) (hj : j < A.size), j < k → A[j] ≠ s[a]) (fun i _ => A.size - (intOf i).toNat)
   case atStart => exact ⟨0, 0, Nat.zero_le _, rfl, rfl, fun j _ h => by omega⟩
   case round =>
     obtain ⟨k, n, hk, rfl, rfl, hr⟩ := hrel
     have HR := Hi hr
     clear hr
     by_cases hlk : k < A.size
     · by_cases hc : A[k] = s[a]
       · have HO := Hi (one_at HA.out s[a] hlk hc)
         have e1 : ((A[k].toNat : Int) == (s[a].toNat : Int)) = true := by rw [hc]; simp
         clear hc
         go_wp2_with fail
         go_quiet (fail)
         go_wp2_with fail
         go_ret
         exact ⟨by rw [HN.out, HO.out]; rfl, _, World.drewN_drewN _ _ _⟩
       · have e1 : ((A[k].toNat : Int) == (s[a].toNat : Int)) = false := by
           rw [beq_eq_false_iff_ne]; intro e; apply hc
           apply UInt8.toNat_inj.1; omega
         have HC := Hi hc
         clear hc
         go_wp2_with fail
         go_quiet (fail)
         go_wp2_with fail
         go_roundw
         case rel => exact ⟨k + 1, _, by omega, by go_num, rfl, fun j hj hjk => by
           by_cases e : j = k
           · subst e; exact HC.out
           · exact HR.out j hj (by omega)⟩
         case measure => simp [intOf]; omega
     · have HO := Hi (one_none HA.out s[a] (fun j hj => HR.out j hj (by omega)))
       go_wp2
       go_ret
       exact ⟨by rw [HN.out, HO.out]; rfl, _, rfl⟩
end Go.Proofs.YtlmdhlckgbgfhaaGreatDoor
