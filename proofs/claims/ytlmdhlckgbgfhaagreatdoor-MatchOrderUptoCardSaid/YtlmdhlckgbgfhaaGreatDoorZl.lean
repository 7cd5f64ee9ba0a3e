/- Texts that belong together: The laws of match: their helper SameBinds. The reference parser of terms as mathematics (success alone is told), and the memory that it works in. A region that draws its order: a head in any order in which one operation may write old memory, told by a relation; then a tail. The reference parser: its leaves. The reference parser: what consumes a token; values of numbers; operations. The reference p -/
import Derived.Test.YtlmdhlckgbgfhaaGreatDoorZc
import Derived.Test.YtlmdhlckgbgfhaaGreatDoorZk
import Derived.Test.YtlmdhlckgbgfhaaGreatDoorZa
import Derived.Test.YtlmdhlckgbgfhaaGreatDoorZd
import Derived.Test.YtlmdhlckgbgfhaaGreatDoorZi
import Derived.StillTailTactics
import Derived.WalkKit
import Derived.WalkSpells
import Derived.WalkLawsBesides
import Derived.Deep.QuietTactic
import Derived.BigQuiet
import Derived.Deep.LoopGhost
set_option maxRecDepth 100000
set_option maxHeartbeats 400000000
namespace Go.Proofs.YtlmdhlckgbgfhaaGreatDoor
open Go.RowKit Go.Shelf
attribute [local go_sem] Oper.semAt_some

def sameBd : Bd → Bd → Bool
 | [], [] => true
 | x :: r, y :: r' => ((x.1.toList == y.1.toList) && sameB x.2 y.2) && sameBd r r'
 | _, _ => false
theorem sameBd_iff : ∀ b c : Bd, sameBd b c = true ↔ b = c
 | [], [] => by simp [sameBd]
 | [], _ :: _ => by simp [sameBd]
 | _ :: _, [] => by simp [sameBd]
 | (n, t) :: r, (n', t') :: r' => by
   simp only [sameBd, Bool.and_eq_true, beq_iff_eq, sameB_iff, sameBd_iff r r', List.cons.injEq, Prod.mk.injEq]
   constructor
   · rintro ⟨⟨h1, h2⟩, h3⟩
     exact ⟨⟨bytes_inj h1, h2⟩, h3⟩
   · rintro ⟨⟨h1, h2⟩, h3⟩
     exact ⟨⟨by rw [h1], h2⟩, h3⟩
theorem sameBd_len {b c : Bd} (h : b.length ≠ c.length) : sameBd b c = false := by
 cases e : sameBd b c with
 | false => rfl
 | true => exact absurd (congrArg List.length ((sameBd_iff b c).1 e)) h
theorem sameBind_any (m m' : ByteArray) (t t' : Tm) (c0 c1 c2 c3 d0 d1 d2 d3 : Value) (W : World) (h : IsTm W.heap.size W c0 c1 c2 c3 t) (h' : IsTm W.heap.size W d0 d1 d2 d3 t') :
   Calls Tryz.prog 39 #[.agg #[.string m, c0, c1, c2, c3], .agg #[.string m', d0, d1, d2, d3]] W fun e W' => e = .returned (.bool ((m.toList == m'.toList) && sameB t t')) ∧ Below W.heap.size W W' := by
 have h0 := h
 have h0' := h'
 obtain ⟨SB, hSB⟩ : ∃ SB, sameB t t' = SB := ⟨_, rfl⟩
 obtain ⟨k2, n2, s2, us2⟩ := t
 obtain ⟨k3, n3, s3, us3⟩ := t'
 simp only [IsTm] at h h'
 obtain ⟨rfl, _, rfl, _, rfl, _, a2, c2, rfl, _, _⟩ := h
 obtain ⟨rfl, _, rfl, _, rfl, _, a3, c3, rfl, _, _⟩ := h'
 obtain ⟨W2, hW2⟩ : ∃ W2, (W.alloc (.cells #[.string m, .int .u8 k2, .int .i64 n2, .string s2, .slice a2 us2.length c2] 40)).alloc (.cells #[.string m', .int .u8 k3, .int .i64 n3, .string s3, .slice a3 us3.length c3] 40) = W2 := ⟨_, rfl⟩
 have hb2 : Below W.heap.size W W2 := by rw [← hW2]; exact ((Below.refl _ W).alloc (Nat.le_refl _) _).alloc (by simp) _
 have HS := Hi (show Calls Tryz.prog 22 #[.agg #[.int .u8 k2, .int .i64 n2, .string s2, .slice a2 us2.length c2], .agg #[.int .u8 k3, .int .i64 n3, .string s3, .slice a3 us3.length c3]] W2 fun e W' => e = .returned (.bool SB) ∧ Below W2.heap.size W2 W' from hSB ▸ sameTerm_any _ _ _ _ _ _ _ _ _ _ W2 ((h0.below hb2).mono hb2.size) ((h0'.below hb2).mono hb2.size))
 have h1 : W2.heap[W.heap.size]? = some (.cells #[.string m, .int .u8 k2, .int .i64 n2, .string s2, .slice a2 us2.length c2] 40 (0, 0)) := by
   rw [← hW2, Below.heap_alloc _ _ _ (by simp)]
   exact World.alloc_heap_new _ _
 have h2 : W2.heap[W.heap.size + 1]? = some (.cells #[.string m', .int .u8 k3, .int .i64 n3, .string s3, .slice a3 us3.length c3] 40 (0, 0)) := by
   rw [← hW2]
   have := World.alloc_heap_new (W.alloc (.cells #[.string m, .int .u8 k2, .int .i64 n2, .string s2, .slice a2 us2.length c2] 40)) (.cells #[.string m', .int .u8 k3, .int .i64 n3, .string s3, .slice a3 us3.length c3] 40)
   rwa [World.size_alloc] at this
 have x0 := cells_at h1 0 _ rfl
 have x1 := cells_at h1 1 _ rfl
 have x2 := cells_at h1 2 _ rfl
 have x3 := cells_at h1 3 _ rfl
 have x4 := cells_at h1 4 _ rfl
 have y0 := cells_at h2 0 _ rfl
 have y1 := cells_at h2 1 _ rfl
 have y2 := cells_at h2 2 _ rfl
 have y3 := cells_at h2 3 _ rfl
 have y4 := cells_at h2 4 _ rfl
 have HB2 := Hi hb2
 rw [hSB]
 obtain ⟨l2, hl2⟩ : ∃ l, us2.length = l := ⟨_, rfl⟩
 obtain ⟨l3, hl3⟩ : ∃ l, us3.length = l := ⟨_, rfl⟩
 rw [hl2] at hW2 HS x4 ⊢
 rw [hl3] at hW2 HS y4 ⊢
 clear h0 h0' hb2 h1 h2 hSB hl2 hl3
 cases hm : (m.toList == m'.toList) with
 | true =>
   go_enter Tryz.func39, Tryz.ntmps39
   go_wp2_with (go_at_call 22; refine HS.out.mono ?_; rintro e W3 ⟨rfl, hb3⟩)
   go_ret
   exact ⟨rfl, HB2.out.trans (hb3.mono HB2.out.size)⟩
 | false =>
   go_enter Tryz.func39, Tryz.ntmps39
   go_wp2
   go_ret
   exact ⟨rfl, HB2.out⟩
theorem sameBinds_any (b c : Bd) (v v' : Value) (W : World) (hb : BdV W v b) (hc : BdV W v' c) :
   Calls Tryz.prog 17 #[v, v'] W fun e W' => e = .returned (.bool (sameBd b c)) ∧ Below W.heap.size W W' := by
 obtain ⟨a, cap, rfl, hl1, hl2, hr⟩ := hb
 obtain ⟨a', cap', rfl, hl3, hl4, hr'⟩ := hc
 have hlb : b.length ≤ maxLen := Nat.le_trans hl1 hl2
 unfold maxLen at hlb
 have HA := Hi hr; clear hr
 have HA' := Hi hr'; clear hr'
 clear hl1 hl2 hl3 hl4
 by_cases hlen : b.length = c.length
 case neg =>
   rw [sameBd_len hlen]
   have e1 : ((b.length : Int) != (c.length : Int)) = true := by simp; omega
   go_enter Tryz.func17, Tryz.ntmps17
   go_wp2
   go_ret
   exact ⟨rfl, Below.refl _ _⟩
 rw [← hlen]
 have HL := Hi hlen
 clear hlen
 obtain ⟨R, hR⟩ : ∃ R, sameBd b c = R := ⟨_, rfl⟩
 rw [hR]
 go_enter Tryz.func17, Tryz.ntmps17
 go_wp2_with fail
 go_loopw [5] (fun i wr => ∃ (j : Nat), j ≤ b.length ∧ i = .int .i64 j ∧ sameBd (b.drop j) (c.drop j) = R ∧ Below W.heap.size W wr) (fun i _ => b.length - (intOf i).toNat)
 case atStart => exact ⟨0, by omega, by go_num, by simpa using hR, Below.refl _ _⟩
 case round =>
   obtain ⟨j, hj, rfl, hk, hBr⟩ := hrel
   clear hR
   by_cases hlt : j < b.length
   · have hlen := HL.out
     have hlt' : j < c.length := by omega
     rw [List.drop_eq_getElem_cons (l := b) hlt, List.drop_eq_getElem_cons (l := c) hlt'] at hk
     simp only [sameBd] at hk
     obtain ⟨g, off, rfl, hg, hI⟩ := HA.out (by intro e; rw [e] at hlt; simp at hlt)
     obtain ⟨g', off', rfl, hg', hI'⟩ := HA'.out (by intro e; rw [e] at hlen; simp at hlen; rw [hlen] at hlt; simp at hlt)
     obtain ⟨_, e4, c0, c1, c2, c3, e0, e1, e2, e3, hc⟩ := hI.at j hlt
     obtain ⟨_, k4, d0, d1, d2, d3, k0, k1, k2, k3, hd⟩ := hI'.at j hlt'
     have hsz := hBr.size
     have g0 := (hBr.cell (p := ⟨g, off + j * 5 + 1, none⟩) hg).trans e0
     have g1 := (hBr.cell (p := ⟨g, off + j * 5 + 2, none⟩) hg).trans e1
     have g2 := (hBr.cell (p := ⟨g, off + j * 5 + 3, none⟩) hg).trans e2
     have g3 := (hBr.cell (p := ⟨g, off + j * 5 + 4, none⟩) hg).trans e3
     have g4 := (hBr.cell (p := ⟨g, off + j * 5, none⟩) hg).trans e4
     have l0 := (hBr.cell (p := ⟨g', off' + j * 5 + 1, none⟩) hg').trans k0
     have l1 := (hBr.cell (p := ⟨g', off' + j * 5 + 2, none⟩) hg').trans k1
     have l2 := (hBr.cell (p := ⟨g', off' + j * 5 + 3, none⟩) hg').trans k2
     have l3 := (hBr.cell (p := ⟨g', off' + j * 5 + 4, none⟩) hg').trans k3
     have l4 := (hBr.cell (p := ⟨g', off' + j * 5, none⟩) hg').trans k4
     have HS := Hi (sameBind_any b[j].1 c[j].1 b[j].2 c[j].2 c0 c1 c2 c3 d0 d1 d2 d3 wr.drew ((hc.below hBr.drew).mono hsz) ((hd.below hBr.drew).mono hsz))
     have hBd : Below W.heap.size W wr.drew := hBr.drew
     have hsd : W.heap.size ≤ wr.drew.heap.size := hsz
     have HBD := Hi hBd
     have HSD := Hi hsd
     cases hs : ((b[j].1.toList == c[j].1.toList) && sameB b[j].2 c[j].2)
     all_goals
       rw [hs] at hk HS
       first | rw [Bool.true_and] at hk | rw [Bool.false_and] at hk
       have HK := Hi hk
       clear e0 e1 e2 e3 e4 k0 k1 k2 k3 k4 hc hd hs hBd hk hsd hlen
       have i1 : (0 : Int) ≤ (j : Int) := by omega
       have i2 : (j : Int) < (b.length : Int) := by omega
       go_wp2_with fail
       go_still_tail 8, (by kernel_rfl)
       change wpList _ _ _ _ _ wr.drew
       go_wp2_with (go_at_call 39; refine HS.out.mono ?_)
       clear HS
       rintro e W2 ⟨rfl, hB2⟩
       have hB2' : Below W.heap.size W W2 := HBD.out.trans (hB2.mono HSD.out)
       clear hB2
       go_wp2_with fail
     · go_ret
       exact ⟨by rw [← HK.out]; rfl, hB2'⟩
     · go_roundw
       case rel => exact ⟨j + 1, by omega, by go_num, HK.out, hB2'⟩
       case measure => simp [intOf]; omega
   · rw [List.drop_eq_nil_of_le (by omega), List.drop_eq_nil_of_le (by have := HL.out; omega)] at hk
     simp only [sameBd] at hk
     subst hk
     have HB := Hi hBr
     clear hBr
     go_wp2
     go_ret
     exact ⟨rfl, HB.out⟩
end Go.Proofs.YtlmdhlckgbgfhaaGreatDoor
namespace Go.Proofs.YtlmdhlckgbgfhaaGreatDoor
open Go.RowKit Go.Shelf

def pk (l : List Tk) (n : Nat) : Int := match l[n]? with | some x => x.k | none => 0
def pt (l : List Tk) (n : Nat) : ByteArray := match l[n]? with | some x => x.t | none => ⟨#[]⟩
def seesL (l : List Tk) (n : Nat) (s : ByteArray) : Bool := decide (4 ≤ pk l n) && ((pt l n).toList == s.toList)
def valL : List UInt8 → Int → Int
 | [], n => n
 | c :: r, n => valL r (wrap64 (wrap64 (n * 10) + ((c.toNat : Int) - 48) % 256))
def valT (s : ByteArray) : Int := valL s.toList 0
def opT (s : ByteArray) (us : List Tm) : Tm := .mk 5 0 s us
def argsP (part : Nat → Option (Tm × Nat)) (l : List Tk) : Nat → Nat → List Tm → Option (List Tm × Nat)
 | 0, _, _ => none
 | k + 1, n, acc => match part n with
   | none => none
   | some (t, m) => if seesL l m ⟨#[44]⟩ then argsP part l k (m + 1) (acc ++ [t]) else if seesL l m ⟨#[41]⟩ then some (acc ++ [t], m + 1) else none
def chainP (next : Nat → Option (Tm × Nat)) (is : Nat → Bool) (l : List Tk) : Nat → Nat → Tm → Option (Tm × Nat)
 | 0, _, _ => none
 | k + 1, m, t => if is m then (match next (m + 1) with
     | none => none
     | some (u, m') => chainP next is l k m' (opT (pt l m) [t, u])) else some (t, m)
def mulAt (l : List Tk) (m : Nat) : Bool := seesL l m ⟨#[42]⟩ || (seesL l m ⟨#[47]⟩ || seesL l m ⟨#[92]⟩)
def addAt (l : List Tk) (m : Nat) : Bool := seesL l m ⟨#[43]⟩ || seesL l m ⟨#[45]⟩
mutual
def factorP : Nat → List Tk → Nat → Option (Tm × Nat)
 | 0, _, _ => none
 | f + 1, l, n => if seesL l n ⟨#[45]⟩ then
       (if pk l (n + 1) = 3 then (if -2147483648 ≤ valT (pt l (n + 1)) ∧ valT (pt l (n + 1)) ≤ 2147483648 then some (.mk 1 (-(valT (pt l (n + 1)))) ⟨#[]⟩ [], n + 2) else none) else match factorP f l (n + 1) with | none => none | some (t, m) => some (opT ⟨#[45]⟩ [t], m))
     else if seesL l n ⟨#[40]⟩ then (match partP f l (n + 1) with | none => none | some (x, m) => if seesL l m ⟨#[41]⟩ then some (x, m + 1) else none)
     else if pk l n = 3 then (if -2147483648 ≤ valT (pt l n) ∧ valT (pt l n) ≤ 2147483648 then some (.mk 1 (valT (pt l n)) ⟨#[]⟩ [], n + 1) else none)
     else if pk l n = 2 then some (.mk 3 0 (pt l n) [], n + 1)
     else namedP f l n
def namedP : Nat → List Tk → Nat → Option (Tm × Nat)
 | 0, _, _ => none
 | f + 1, l, n => if pk l n = 1 then (if seesL l (n + 1) ⟨#[40]⟩ then (match argsP (fun i => partP f l i) l 8 (n + 2) [] with | none => none | some (us, m) => some (.mk 4 0 (pt l n) us, m)) else some (.mk 2 0 (pt l n) [], n + 1)) else none
def productP : Nat → List Tk → Nat → Option (Tm × Nat)
 | 0, _, _ => none
 | f + 1, l, n => match factorP f l n with | none => none | some (t, m) => chainP (fun i => factorP f l i) (mulAt l) l f m t
def sumP : Nat → List Tk → Nat → Option (Tm × Nat)
 | 0, _, _ => none
 | f + 1, l, n => match productP f l n with | none => none | some (t, m) => chainP (fun i => productP f l i) (addAt l) l f m t
def partP : Nat → List Tk → Nat → Option (Tm × Nat)
 | 0, _, _ => none
 | f + 1, l, n => match sumP f l n with
   | none => none
   | some (t, m) => if seesL l m ⟨#[46, 46]⟩ then (match sumP f l (m + 1) with | none => none | some (u, m') => some (.mk 6 0 ⟨#[]⟩ [t, u], m')) else some (t, m)
end
structure On (P : Nat) (w w' : World) : Prop where
 os : w'.os = w.os
 tape : w'.tape = w.tape
 output : w'.output = w.output
 size : w.heap.size ≤ w'.heap.size
 block : ∀ k, k < w.heap.size → k ≠ P → w'.heap[k]? = w.heap[k]?
theorem On.refl (P : Nat) (w : World) : On P w w := ⟨rfl, rfl, rfl, Nat.le_refl _, fun _ _ _ => rfl⟩
theorem On.trans {P : Nat} {a b c : World} (h : On P a b) (k : On P b c) : On P a c :=
 ⟨k.os.trans h.os, k.tape.trans h.tape, k.output.trans h.output, Nat.le_trans h.size k.size, fun q hq h1 => (k.block q (Nat.lt_of_lt_of_le hq h.size) h1).trans (h.block q hq h1)⟩
theorem On.below {P B : Nat} {w w' : World} (h : On P w w') (hP : B ≤ P) (hs : B ≤ w.heap.size) : Below B w w' :=
 ⟨h.os, h.tape, h.output, h.size, fun k hk => h.block k (by omega) (by omega)⟩
theorem On.of_below {P : Nat} {w w' : World} (h : Below w.heap.size w w') : On P w w' := ⟨h.os, h.tape, h.output, h.size, fun k hk _ => h.block k hk⟩
def NoStr (cs : Array Value) : Prop := ∀ (i : Nat) s, cs[i]? ≠ some (.string s)
mutual
theorem IsTm.on {P B : Nat} {w w' : World} {cs : Array Value} {t : TypeId} {q : Nat × Nat} (h : On P w w') (hB : B ≤ w.heap.size) (hp : w.heap[P]? = some (.cells cs t q)) (hn : NoStr cs) {c0 c1 c2 c3 : Value} : ∀ {t : Tm}, IsTm B w c0 c1 c2 c3 t → IsTm B w' c0 c1 c2 c3 t
 | .mk _ _ _ args, ht => by
   simp only [IsTm] at ht ⊢
   obtain ⟨h0, hk, h1, hn1, h2, hs, a, cap, h3, hl, hr⟩ := ht
   refine ⟨h0, hk, h1, hn1, h2, hs, a, cap, h3, hl, fun hne => ?_⟩
   obtain ⟨b, off, ha, hb, hi⟩ := hr hne
   exact ⟨b, off, ha, hb, IsTms.on h hB hp hn hb hi⟩
theorem IsTms.on {P B : Nat} {w w' : World} {cs : Array Value} {t : TypeId} {q : Nat × Nat} (h : On P w w') (hB : B ≤ w.heap.size) (hp : w.heap[P]? = some (.cells cs t q)) (hn : NoStr cs) {b off : Nat} (hb : b < B) : ∀ {ts : List Tm}, IsTms B w b off ts → IsTms B w' b off ts
 | [], _ => by simp only [IsTms]
 | t :: ts, ht => by
   simp only [IsTms] at ht ⊢
   obtain ⟨c0, c1, c2, c3, h0, h1, h2, h3, hi, hr⟩ := ht
   have hbP : b ≠ P := by
     intro e
     subst e
     obtain ⟨k, n, s, us⟩ := t
     have hi2 := hi
     simp only [IsTm] at hi2
     obtain ⟨_, _, _, _, e2, _⟩ := hi2
     subst e2
     refine hn (off + 2) s ?_
     simpa [World.cell?, hp] using h2
   have hc : ∀ o, w'.cell? ⟨b, o, none⟩ = w.cell? ⟨b, o, none⟩ := fun o => by simp only [World.cell?, h.block b (by omega) hbP]
   exact ⟨c0, c1, c2, c3, (hc _).trans h0, (hc _).trans h1, (hc _).trans h2, (hc _).trans h3, IsTm.on h hB hp hn hi, IsTms.on h hB hp hn hb hr⟩
end
def recI (a : Option Addr) (len cap n : Nat) (S : Int) : Array Value := #[.slice a len cap, .int .i64 n, .int .i64 S, .slice none 0 0, .slice none 0 0, .slice none 0 0, .bool false, .int .i64 0, .int .i64 0]
theorem recI_nostr (a : Option Addr) (len cap n : Nat) (S : Int) : NoStr (recI a len cap n S) := by
 intro i s h
 match i, h with
 | 0, h => simp [recI] at h
 | 1, h => simp [recI] at h
 | 2, h => simp [recI] at h
 | 3, h => simp [recI] at h
 | 4, h => simp [recI] at h
 | 5, h => simp [recI] at h
 | 6, h => simp [recI] at h
 | 7, h => simp [recI] at h
 | 8, h => simp [recI] at h
 | k + 9, h => simp [recI] at h
def TokAt (l : List Tk) (P : Nat) (a : Option Addr) (W : World) : Prop := l ≠ [] → ∃ g off, a = some ⟨g, off, none⟩ ∧ g < P ∧ ∀ i x, l[i]? = some x → W.cell? ⟨g, off + i * 3, none⟩ = some (.int .i64 x.k) ∧ W.cell? ⟨g, off + i * 3 + 1, none⟩ = some (.string x.t) ∧ W.cell? ⟨g, off + i * 3 + 2, none⟩ = some (.int .i64 x.a)
def TokOk (l : List Tk) : Prop := l.length ≤ 40000 ∧ ∀ x ∈ l, x.t.size ≤ maxLen
structure InAt (l : List Tk) (P : Nat) (n : Nat) (W : World) : Prop where
 ok : TokOk l
 le : n ≤ l.length
 mem : ∃ (a : Option Addr) (cap : Nat) (S : Int), W.heap[P]? = some (.cells (recI a l.length cap n S) 111 (0, 0)) ∧ TokAt l P a W
theorem TokAt.below {l : List Tk} {P B : Nat} {a : Option Addr} {W W' : World} (h : TokAt l P a W) (hb : Below B W W') (hP : P ≤ B) : TokAt l P a W' := by
 intro hne
 obtain ⟨g, off, ha, hg, hc⟩ := h hne
 refine ⟨g, off, ha, hg, fun i x hx => ?_⟩
 obtain ⟨h1, h2, h3⟩ := hc i x hx
 exact ⟨(hb.cell (p := ⟨g, _, none⟩) (by show g < B; omega)).trans h1, (hb.cell (p := ⟨g, _, none⟩) (by show g < B; omega)).trans h2, (hb.cell (p := ⟨g, _, none⟩) (by show g < B; omega)).trans h3⟩
theorem InAt.lt {l : List Tk} {P n : Nat} {W : World} (h : InAt l P n W) : P < W.heap.size := by
 obtain ⟨a, cap, S, h1, _⟩ := h.mem
 exact (gL h1)
theorem InAt.grow {l : List Tk} {P n : Nat} {W W' : World} (h : InAt l P n W) (hb : Below W.heap.size W W') : InAt l P n W' := by
 have hl := h.lt
 obtain ⟨a, cap, S, h1, h2⟩ := h.mem
 exact ⟨h.ok, h.le, a, cap, S, (hb.block P hl).trans h1, h2.below hb (Nat.le_of_lt hl)⟩
theorem InAt.frozen {l : List Tk} {P n : Nat} {W : World} (h : InAt l P n W) (o : Nat) : W.frozen? ⟨P, o, none⟩ = false := by
 obtain ⟨a, cap, S, h1, _⟩ := h.mem
 simp [World.frozen?, h1]
theorem InAt.set {l : List Tk} {P n : Nat} {W : World} (h : InAt l P n W) (n' : Nat) (hn : n' ≤ l.length) : ∃ W', W.setCell ⟨P, 1, none⟩ (.int .i64 n') = W' ∧ InAt l P n' W' ∧ On P W W' := by
 obtain ⟨a, cap, S, h1, h2⟩ := h.mem
 have hb : On P W (W.setCell ⟨P, 1, none⟩ (.int .i64 n')) := ⟨rfl, rfl, rfl, by simp [World.setCell], fun k _ hne => by simp [World.setCell, Array.getElem?_modify, Ne.symm hne]⟩
 refine ⟨_, rfl, ⟨h.ok, hn, a, cap, S, ?_, h2.below (hb.below (Nat.le_refl P) (Nat.le_of_lt h.lt)) (Nat.le_refl P)⟩, hb⟩
 simp [World.setCell, Array.getElem?_modify, h1, recI]
theorem InAt.cells {l : List Tk} {P n : Nat} {W : World} (h : InAt l P n W) : ∃ (a : Option Addr) (cap : Nat) (S : Int), W.cell? ⟨P, 0, none⟩ = some (.slice a l.length cap) ∧ W.cell? ⟨P, 1, none⟩ = some (.int .i64 n) ∧ W.cell? ⟨P, 2, none⟩ = some (.int .i64 S) ∧ W.cell? ⟨P, 8, none⟩ = some (.int .i64 0) ∧ TokAt l P a W := by
 obtain ⟨a, cap, S, h1, h2⟩ := h.mem
 exact ⟨a, cap, S, cells_at h1 0 _ rfl, cells_at h1 1 _ rfl, cells_at h1 2 _ rfl, cells_at h1 8 _ rfl, h2⟩
theorem InAt.term {l : List Tk} {P n B : Nat} {W W' : World} (h : InAt l P n W) (ho : On P W W') (hB : B ≤ W.heap.size) {c0 c1 c2 c3 : Value} {t : Tm} (ht : IsTm B W c0 c1 c2 c3 t) : IsTm B W' c0 c1 c2 c3 t := by
 obtain ⟨a, cap, S, h1, _⟩ := h.mem
 exact ht.on ho hB h1 (recI_nostr _ _ _ _ _)
theorem pk_pos {l : List Tk} {n : Nat} (h : pk l n ≠ 0) : n < l.length := by
 unfold pk at h
 cases hx : l[n]? with
 | none => rw [hx] at h; exact absurd rfl h
 | some x => exact (List.getElem?_eq_some_iff.1 hx).1
theorem sees_pos {l : List Tk} {n : Nat} {s : ByteArray} (h : seesL l n s = true) : n < l.length := by
 unfold seesL at h
 rw [Bool.and_eq_true, decide_eq_true_eq] at h
 exact pk_pos (by omega)
end Go.Proofs.YtlmdhlckgbgfhaaGreatDoor
namespace Go.Proofs.YtlmdhlckgbgfhaaGreatDoor
open Go.RowKit

structure HeadInvR (ops : Array Oper) (n m : Nat) (R : World → World → Prop) (Φ : Facts) (a0 : Act) (w0 : World) (listed : Array Bool) (a : Act) (w : World) : Prop where
 below : R w0 w
 early : listed.getD m false = false → Below w0.heap.size w0 w
 defers : a.defers = a0.defers
 tmps : a.tmps.size = a0.tmps.size
 outer : ∀ t, noDstTo ops n t = true → a.tmps.getD t undef = a0.tmps.getD t undef
 facts : ∀ i o d, ops[i]? = some o → i < n → listed.getD i false = true → o.dst = some d → Φ i (a.tmps.getD d undef) w
def SteppedR (ops : Array Oper) (m : Nat) (R : World → World → Prop) (Φ : Facts) (_ : World) (i : Nat) (o : Oper) (a : Act) (w : World) (a' : Act) (w' : World) : Prop :=
 ∃ v, a' = a.put o.dst v ∧ (if i = m then R w w' else Below w.heap.size w w') ∧ (∀ d, o.dst = some d → Φ i v w') ∧ ∀ j u, j ≠ i → waitsT ops ops.size j i = false → Φ j u w → Φ j u w'
def StepToR (P : Program) (ops : Array Oper) (n m : Nat) (R : World → World → Prop) (Q : Exit → Act → World → Prop) (Φ : Facts) (a0 : Act) (w0 : World) (i : Nat) (o : Oper) : Prop :=
 ∀ a w, R w0 w → ((i = m ∨ waitsT ops ops.size m i = true) → Below w0.heap.size w0 w) → a.defers = a0.defers → a.tmps.size = a0.tmps.size →
   (∀ t, noDstTo ops n t = true → a.tmps.getD t undef = a0.tmps.getD t undef) →
   (∀ j oj d, waitsFor o j = true → ops[j]? = some oj → oj.dst = some d → Φ j (a.tmps.getD d undef) w) →
   Region.wanted o (yielded ops a.tmps) = true ∧ o.wp P a w (SteppedR ops m R Φ w0 i o a w) Q
theorem SteppedR.at {ops : Array Oper} {m : Nat} {R : World → World → Prop} {Φ : Facts} {w0 : World} {i : Nat} {o : Oper} {a : Act} {w w' : World} {v : Value} {tm : Array Value} {df : List Deferred} (hv : tm = (a.put o.dst v).tmps) (hf : a.defers = df) (him : i ≠ m) (hb : Below w.heap.size w w') (hΦ : Φ i v w')
   (hst : ∀ i v w w', Φ i v w → Below w.heap.size w w' → Φ i v w') : SteppedR ops m R Φ w0 i o a w ⟨tm, df⟩ w' := by
 refine ⟨v, ?_, by rw [if_neg him]; exact hb, fun _ _ => hΦ, fun j u _ _ h => hst j u w w' h hb⟩
 subst hv hf
 cases o.dst <;> rfl
theorem SteppedR.call {ops : Array Oper} {m : Nat} {R : World → World → Prop} {Φ : Facts} {w0 : World} {i : Nat} {o : Oper} {a : Act} {w w' : World} {v : Value} {tm : Array Value} {df : List Deferred} (hv : tm = (a.put o.dst v).tmps) (hf : a.defers = df) (him : i = m) (hr : R w w') (hΦ : Φ i v w')
   (hst : ∀ j u, j ≠ i → waitsT ops ops.size j i = false → Φ j u w → Φ j u w') : SteppedR ops m R Φ w0 i o a w ⟨tm, df⟩ w' := by
 refine ⟨v, ?_, by rw [if_pos him]; exact hr, fun _ _ => hΦ, hst⟩
 subst hv hf
 cases o.dst <;> rfl
theorem HeadInvR.put {ops : Array Oper} {n m : Nat} {R : World → World → Prop} {Φ : Facts} {a0 : Act} {w0 : World} (hRb : ∀ w w', Below w.heap.size w w' → R w w') (hRt : ∀ a b c, R a b → R b c → R a c) (hRs : ∀ a b, R a b → a.heap.size ≤ b.heap.size) (hok : regionOk ops a0.tmps.size = true)
   {listed : Array Bool} {a : Act} {w : World} (hls : listed.size = ops.size) (hcl : ListedOk ops listed) (hJ : HeadInvR ops n m R Φ a0 w0 listed a w) {i : Nat} {o : Oper} (hin : i < n) (ho : ops[i]? = some o) (hil : listed.getD i false = false) {v : Value} {w' : World} (hb : (if i = m then R w w' else Below w.heap.size w w')) (hv : ∀ d, o.dst = some d → Φ i v w')
   (hk : ∀ j u, j ≠ i → waitsT ops ops.size j i = false → Φ j u w → Φ j u w') :
   HeadInvR ops n m R Φ a0 w0 (listed.setIfInBounds i true) (a.put o.dst v) w' := by
 have hi := (gL ho)
 refine ⟨?_, ?_, ?_, ?_, ?_, ?_⟩
 · by_cases e : i = m
   · rw [if_pos e] at hb; exact hRt _ _ _ hJ.below hb
   · rw [if_neg e] at hb; exact hRt _ _ _ hJ.below (hRb _ _ hb)
 · intro hm
   by_cases e : i = m
   · subst e
     simp [Array.getD_eq_getD_getElem?, hls, hi] at hm
   · rw [if_neg e] at hb
     rw [getD_set_ne (fun h => e h.symm)] at hm
     exact (hJ.early hm).trans (hb.mono (hRs _ _ hJ.below))
 · rw [← hJ.defers]; cases o.dst <;> rfl
 · rw [← hJ.tmps]; cases o.dst <;> simp [Act.put]
 · intro t ht
   rw [← hJ.outer t ht]
   cases hd : o.dst with
   | none => rfl
   | some d =>
     have hne : d ≠ t := fun e => noDstTo_spec ht i hin o ho (by rw [hd, e])
     simp [Act.put, Array.getD_eq_getD_getElem?, Array.getElem?_setIfInBounds_ne hne]
 · intro j oj d hoj hjn hlj hd
   by_cases hji : j = i
   · subst hji
     obtain rfl : oj = o := by rw [ho] at hoj; exact (Option.some.inj hoj).symm
     have hdn := ((regionOk_spec hok j oj ho).2 d hd).1
     rw [hd]
     have e : (a.put (some d) v).tmps.getD d undef = v := by
       have : d < a.tmps.size := by rw [hJ.tmps]; exact hdn
       simp [Act.put, Array.getD_eq_getD_getElem?, this]
     rw [e]
     exact hv d hd
   · have hlj' : listed.getD j false = true := by
       simpa [Array.getD_eq_getD_getElem?, Array.getElem?_setIfInBounds_ne (fun e => hji e.symm)] using hlj
     have hwt : waitsT ops ops.size j i = false := by
       cases hq : waitsT ops ops.size j i with
       | false => rfl
       | true =>
         have := waits_listed hcl i ops.size j oj hoj (hcl j oj hoj hlj') hq
         rw [this] at hil; cases hil
     have hf0 := hk j _ hji hwt (hJ.facts j oj d hoj hjn hlj' hd)
     cases hd' : o.dst with
     | none => exact hf0
     | some d' =>
       have hne : d' ≠ d := by
         intro e
         subst e
         rcases Nat.lt_or_gt_of_ne hji with h | h
         · exact ((regionOk_spec hok i o ho).2 d' hd').2 j oj h hoj hd
         · exact ((regionOk_spec hok j oj hoj).2 d' hd).2 i o h ho hd'
       simpa [Act.put, Array.getD_eq_getD_getElem?, Array.getElem?_setIfInBounds_ne hne] using hf0

theorem wp_region_rel_tail {P : Program} {ops : Array Oper} {Q : Exit → Act → World → Prop} {id : Nat} {a0 : Act} {w0 : World} (hm : P.follows .mixedOrders = true) (n m : Nat) (R : World → World → Prop) (hRb : ∀ w w', Below w.heap.size w w' → R w w') (hRt : ∀ a b c, R a b → R b c → R a c) (hRs : ∀ a b, R a b → a.heap.size ≤ b.heap.size) (hmn : m < n) (Φ : Facts)
   (hok : regionOk ops a0.tmps.size = true) (htl : tailOk ops n = true)
   (step : ∀ i o, ops[i]? = some o → i < n → StepToR P ops n m R Q Φ a0 w0 i o)
   (tail : ∀ a w, R w0 w → a.defers = a0.defers → a.tmps.size = a0.tmps.size → (∀ t, noDstTo ops n t = true → a.tmps.getD t undef = a0.tmps.getD t undef) →
     (∀ i o d, ops[i]? = some o → i < n → o.dst = some d → Φ i (a.tmps.getD d undef) w) → wpList P ops Q (ops.toList.drop n) a w) : (Code.region id ops true).wp P Q a0 w0 := by
 have hlt := tailOk_lt htl
 have hcons : ∀ k o, ops[k]? = some o → ops.toList.drop k = o :: ops.toList.drop (k + 1) := by
   intro k o ho
   have hk := (gL ho)
   rw [List.drop_eq_getElem_cons (by simpa using hk)]
   congr 1
   have := (Array.getElem?_eq_some_iff.1 ho).2
   simpa using this
 refine wp_region_any hm (wpAny_inv hok (fun l a w => l.size = ops.size ∧ ListedOk ops l ∧ (((∀ j, n ≤ j → l.getD j false = false) ∧ HeadInvR ops n m R Φ a0 w0 l a w) ∨
   ∃ k, n < k ∧ (∀ j, j < k → j < ops.size → l.getD j false = true) ∧ (∀ j, k ≤ j → l.getD j false = false) ∧ wpList P ops Q (ops.toList.drop k) a w)) (fun _ _ _ h => h.1) ?_ ?_ ops.size _ a0 _ ⟨by simp, ?_, Or.inl ⟨?_, ?_⟩⟩ ?_)
 · rintro l a w i o ⟨hls, hcl, hJ⟩ hil ho hie
   have hi' : i < ops.size := (gL ho)
   have hil' : l.getD i false = false := by rw [← getD_true_false (by omega)]; exact hil
   have hcl' := hcl.set hls ho hie
   have hall : n ≤ i → ∀ j, j < i → l.getD j false = true := fun hni j hj => waits_listed hcl j ops.size i o ho hie (tailOk_spec htl i hi' hni j hj)
   rcases hJ with ⟨hun, hJ⟩ | ⟨k, hnk, hlk, huk, hwp⟩
   · by_cases hin : i < n
     · obtain ⟨hw, hwp⟩ := step i o ho hin a w hJ.below (fun hq => hJ.early (by
         rcases hq with rfl | hq
         · exact hil'
         · cases hlm : l.getD m false with
           | false => rfl
           | true =>
             have hms : m < ops.size := by omega
             obtain ⟨om, hom⟩ : ∃ o, ops[m]? = some o := ⟨ops[m], Array.getElem?_eq_getElem hms⟩
             have := waits_listed hcl i ops.size m om hom (hcl m om hom hlm) hq
             rw [this] at hil'; cases hil')) hJ.defers hJ.tmps hJ.outer (fun j oj d hwt hoj hd => by
         obtain ⟨e, he, hej, hb⟩ := waitsFor_spec hwt
         have hji : j < i := by rw [← hej]; exact (regionOk_spec hok i o ho).1 e he
         exact hJ.facts j oj d hoj (by omega) (hej ▸ hie e he hb) hd)
       unfold wpOp
       simp only [ho, hw, if_true]
       refine Or.inl (Oper.wp_mono ?_ hwp)
       rintro a' w' ⟨v, rfl, hb, hv, hk⟩
       exact ⟨by simp [hls], hcl', Or.inl ⟨fun j hj => by rw [getD_set_ne (by omega)]; exact hun j hj, hJ.put hRb hRt hRs hok hls hcl hin ho hil' hb hv hk⟩⟩
     · have hin' : i = n := by
         by_cases e : i = n
         · exact e
         · have h1 := hall (by omega) n (by omega)
           rw [hun n (Nat.le_refl _)] at h1; cases h1
       subst hin'
       have H := tail a w hJ.below hJ.defers hJ.tmps hJ.outer (fun j oj d hoj hj hd => hJ.facts j oj d hoj hj (hall (Nat.le_refl _) j hj) hd)
       rw [hcons i o ho] at H
       have H' : wpOp P ops Q i (wpList P ops Q (ops.toList.drop (i + 1))) a w := by
         unfold wpOp
         simp only [ho]
         exact H
       refine wpOp_mono ?_ H'
       intro a' w' hQ
       refine ⟨by simp [hls], hcl', Or.inr ⟨i + 1, by omega, fun j hj hjs => ?_, fun j hj => by rw [getD_set_ne (by omega)]; exact hun j (by omega), hQ⟩⟩
       by_cases e : j = i
       · subst e; simp [Array.getD_eq_getD_getElem?, hls, hi']
       · rw [getD_set_ne e]; exact hall (Nat.le_refl _) j (by omega)
   · have hik : i = k := by
       have h1 : k ≤ i := by
         by_cases e : k ≤ i
         · exact e
         · have := hlk i (by omega) hi'
           rw [hil'] at this; cases this
       by_cases e : i = k
       · exact e
       · have h2 := hall (by omega) k (by omega)
         rw [huk k (Nat.le_refl _)] at h2; cases h2
     subst hik
     rw [hcons i o ho] at hwp
     have H' : wpOp P ops Q i (wpList P ops Q (ops.toList.drop (i + 1))) a w := by
       unfold wpOp
       simp only [ho]
       exact hwp
     refine wpOp_mono ?_ H'
     intro a' w' hQ
     refine ⟨by simp [hls], hcl', Or.inr ⟨i + 1, by omega, fun j hj hjs => ?_, fun j hj => by rw [getD_set_ne (by omega)]; exact huk j (by omega), hQ⟩⟩
     by_cases e : j = i
     · subst e; simp [Array.getD_eq_getD_getElem?, hls, hi']
     · rw [getD_set_ne e]; exact hlk j (by omega) hjs
 · rintro a w ⟨_, _, ⟨hun, _⟩ | ⟨k, _, _, huk, hwp⟩⟩
   · have := hun n (Nat.le_refl _)
     simp [Array.getD_eq_getD_getElem?, hlt] at this
   · have hk : ops.size ≤ k := by
       by_cases e : ops.size ≤ k
       · exact e
       · have := huk k (Nat.le_refl _)
         simp [Array.getD_eq_getD_getElem?, show k < ops.size by omega] at this
     rw [List.drop_eq_nil_of_le (by simpa using hk)] at hwp
     exact hwp
 · intro i o ho hl
   have hi := (gL ho)
   simp [Array.getD_eq_getD_getElem?, hi] at hl
 · intro j _
   by_cases hj : j < ops.size <;> simp [Array.getD_eq_getD_getElem?, hj]
 · refine ⟨hRb _ _ (Below.refl _ w0).drew, fun _ => (Below.refl _ w0).drew, rfl, rfl, fun _ _ => rfl, ?_⟩
   intro i o d ho _ hl _
   have hi := (gL ho)
   simp [Array.getD_eq_getD_getElem?, hi] at hl
 · exact Nat.le_trans (List.length_filter_le _ _) (by simp)
def StepsToR (P : Program) (ops : Array Oper) (n m : Nat) (R : World → World → Prop) (Q : Exit → Act → World → Prop) (Φ : Facts) (a0 : Act) (w0 : World) : Nat → List Oper → Prop
 | _, [] => True
 | i, o :: r => StepToR P ops n m R Q Φ a0 w0 i o ∧ StepsToR P ops n m R Q Φ a0 w0 (i + 1) r
theorem stepsToR_get {P : Program} {ops : Array Oper} {n m : Nat} {R : World → World → Prop} {Q : Exit → Act → World → Prop} {Φ : Facts} {a0 : Act} {w0 : World} : ∀ {l : List Oper} {k : Nat}, StepsToR P ops n m R Q Φ a0 w0 k l → ∀ i o, l[i]? = some o → StepToR P ops n m R Q Φ a0 w0 (k + i) o
 | [], _, _, i, o, h => by simp at h
 | x :: r, k, hs, i, o, h => by
   cases i with
   | zero => simp at h; subst h; exact hs.1
   | succ i =>
     have := stepsToR_get hs.2 i o (by simpa using h)
     rwa [show k + 1 + i = k + (i + 1) by omega] at this
theorem steps_toR {P : Program} {ops : Array Oper} {n m : Nat} {R : World → World → Prop} {Q : Exit → Act → World → Prop} {Φ : Facts} {a0 : Act} {w0 : World} (H : StepsToR P ops n m R Q Φ a0 w0 0 (ops.toList.take n)) : ∀ i o, ops[i]? = some o → i < n → StepToR P ops n m R Q Φ a0 w0 i o := by
 intro i o ho hi
 have := stepsToR_get H i o (by rw [List.getElem?_take_of_lt hi]; simpa using ho)
 rwa [Nat.zero_add] at this
theorem facts_toR {ops : Array Oper} {n : Nat} {Φ : Facts} {a : Act} {w : World} (hp : ∀ i o d, ops[i]? = some o → i < n → o.dst = some d → Φ i (a.tmps.getD d undef) w) (j d : Nat) (hj : j < n) (h : dstAt ops j d = true) : Φ j (a.tmps.getD d undef) w := by
 obtain ⟨oj, h1, h2⟩ := dstAt_spec h
 exact hp j oj d h1 hj h2
theorem slots_mergeR {P : Nat → Bool} {a : Array Value} {l : List Value} (m : List Bool) (n : Nat) (hs : a.size = l.toArray.size) (hn : l.length = n) (hm : (List.range n).map (fun t => !(P t)) = m)
   (ho : ∀ t, P t = true → a.getD t undef = l.toArray.getD t undef) : a = (mergeFrom a 0 m l).toArray := by
 have hml : m.length = l.length := by rw [← hm, hn]; simp
 apply Array.ext
 · have h1 : (mergeFrom a 0 m l).toArray.size = l.length := by simp [merge_length a m l 0 hml]
   have h2 : a.size = l.length := by simpa using hs
   omega
 · intro i h1 h2
   have hi : i < l.length := by simpa [merge_length a m l 0 hml] using h2
   have := merge_at a m l 0 hml (fun j hj => by
     rw [← hm, List.getElem?_map] at hj
     have hjn : j < n := by
       apply Decidable.byContradiction; intro hc
       rw [List.getElem?_eq_none (by simpa using hc)] at hj; cases hj
     rw [List.getElem?_range hjn] at hj
     simp only [Option.map_some, Option.some.injEq, Bool.not_eq_false'] at hj
     have h3 := ho j hj
     rw [Nat.zero_add, h3]
     have : j < l.length := by omega
     simp [Array.getD_eq_getD_getElem?, this]) i hi
   rw [Nat.zero_add] at this
   have h4 := List.getElem?_eq_getElem (l := mergeFrom a 0 m l) (i := i) (by simpa using h2)
   rw [h4] at this
   have h5 : (mergeFrom a 0 m l)[i] = a.getD i undef := by simpa using this
   simp only [List.getElem_toArray]
   rw [h5]
   simp [Array.getD_eq_getD_getElem?, h1]
end Go.Proofs.YtlmdhlckgbgfhaaGreatDoor
namespace Go.Proofs.YtlmdhlckgbgfhaaGreatDoor
open Go.RowKit Go.Shelf
attribute [local go_sem] Oper.semAt_some

theorem here_any {l : List Tk} {P n : Nat} {W : World} (h : InAt l P n W) :
   Calls Tryz.prog 178 #[.pointer (some ⟨P, 0, none⟩)] W fun e w' => (∃ A, e = .returned (.agg #[.int .i64 (pk l n), .string (pt l n), .int .i64 A])) ∧ Below W.heap.size W w' := by
 obtain ⟨a, cap, S, p0, p1, p2, p8, hT⟩ := h.cells
 have hok := h.ok.1
 have hle := h.le
 have HT := Hi hT
 have HI := Hi h
 clear hT h
 obtain ⟨W1, hW1⟩ : ∃ W1, W.alloc (.cells #[.int .i64 0, .string ⟨#[]⟩, .int .i64 0] 153) = W1 := ⟨_, rfl⟩
 have hb1 : Below W.heap.size W W1 := by rw [← hW1]; exact bR.alloc (Nat.le_refl _) _
 have hx1 : W1.heap[W.heap.size]? = some (.cells #[.int .i64 0, .string ⟨#[]⟩, .int .i64 0] 153 (0, 0)) := by rw [← hW1]; exact World.alloc_heap_new _ _
 have hP := HI.out.lt
 have p0' := (hb1.cell (p := ⟨P, 0, none⟩) hP).trans p0
 have p1' := (hb1.cell (p := ⟨P, 1, none⟩) hP).trans p1
 have p2' := (hb1.cell (p := ⟨P, 2, none⟩) hP).trans p2
 have p8' := (hb1.cell (p := ⟨P, 8, none⟩) hP).trans p8
 have t0 := cells_at hx1 0 _ rfl
 have t1 := cells_at hx1 1 _ rfl
 have t2 := cells_at hx1 2 _ rfl
 have hf1 : ∀ o, W1.frozen? ⟨W.heap.size, o, none⟩ = false := fun o => by simp [World.frozen?, hx1]
 have HB1 := Hi hb1
 clear p0 p1 p2 p8 hx1
 by_cases hlt : n < l.length
 · obtain ⟨g, off, rfl, hg, hc⟩ := HT.out (by intro e; rw [e] at hlt; simp at hlt)
   obtain ⟨x, hx⟩ : ∃ x, l[n]? = some x := ⟨l[n], List.getElem?_eq_getElem hlt⟩
   have hk : pk l n = x.k := by unfold pk; rw [hx]
   have ht : pt l n = x.t := by unfold pt; rw [hx]
   obtain ⟨q0, q1, q2⟩ := hc n x hx
   have q0' := (hb1.cell (p := ⟨g, _, none⟩) (show g < W.heap.size by omega)).trans q0
   have q1' := (hb1.cell (p := ⟨g, _, none⟩) (show g < W.heap.size by omega)).trans q1
   have q2' := (hb1.cell (p := ⟨g, _, none⟩) (show g < W.heap.size by omega)).trans q2
   rw [hk, ht]
   obtain ⟨len, hlen⟩ : ∃ len, l.length = len := ⟨_, rfl⟩
   rw [hlen] at p0' hok hlt
   have d1 : ((n : Int) ≥ (len : Int)) = False := by simp; omega
   have d2 : decide ((n : Int) ≥ (len : Int)) = false := decide_eq_false (by omega)
   have d3 : (n : Int) < (len : Int) := by omega
   clear hk ht hx hc hle hlen HT q0 q1 q2 hb1
   go_enter Tryz.func178, Tryz.ntmps178
   go_wp2_with fail
   try rw [hW1]
   go_quiet (fail)
   go_wp2_with fail
   generalize hW9 : World.drewN _ _ = W9
   have r0 : W9.cell? ⟨P, 0, none⟩ = some (.slice (some ⟨g, off, none⟩) len cap) := by rw [← hW9]; exact p0'
   have r1 : W9.cell? ⟨P, 1, none⟩ = some (.int .i64 n) := by rw [← hW9]; exact p1'
   have s0 : W9.cell? ⟨g, off + n * 3, none⟩ = some (.int .i64 x.k) := by rw [← hW9]; exact q0'
   have s1 : W9.cell? ⟨g, off + n * 3 + 1, none⟩ = some (.string x.t) := by rw [← hW9]; exact q1'
   have s2 : W9.cell? ⟨g, off + n * 3 + 2, none⟩ = some (.int .i64 x.a) := by rw [← hW9]; exact q2'
   have u0 : W9.cell? ⟨W.heap.size, 0, none⟩ = some (.int .i64 0) := by rw [← hW9]; exact t0
   have u1 : W9.cell? ⟨W.heap.size, 1, none⟩ = some (.string ⟨#[]⟩) := by rw [← hW9]; exact t1
   have u2 : W9.cell? ⟨W.heap.size, 2, none⟩ = some (.int .i64 0) := by rw [← hW9]; exact t2
   have hf9 : ∀ o, W9.frozen? ⟨W.heap.size, o, none⟩ = false := fun o => by rw [← hW9]; exact hf1 o
   have HB9 : Hid (Below W.heap.size W W9) := Hi (by rw [← hW9]; exact HB1.out.trans ⟨rfl, rfl, rfl, Nat.le_refl _, fun _ _ => rfl⟩)
   clear hW9 p0' p1' p2' p8' q0' q1' q2' t0 t1 t2 hf1
   go_still_tail 10, (by kernel_rfl)
   change wpList _ _ _ _ _ W9.drew
   go_wp2_with fail
   refine bodyPost_ret (v := .agg #[.int .i64 x.k, .string x.t, .int .i64 x.a]) (by simp [results, Tryz.f178, go_sem, u0, u1, u2]) rfl ?_
   exact ⟨⟨_, rfl⟩, (((HB9.out.trans ⟨rfl, rfl, rfl, Nat.le_refl _, fun _ _ => rfl⟩ : Below W.heap.size W W9.drew).setCell (p := ⟨W.heap.size, 0, none⟩) (Nat.le_refl _) _).setCell (p := ⟨W.heap.size, 1, none⟩) (Nat.le_refl _) _).setCell (p := ⟨W.heap.size, 2, none⟩) (Nat.le_refl _) _⟩
 · have hk : pk l n = 0 := by unfold pk; rw [List.getElem?_eq_none (by omega)]
   have ht : pt l n = ⟨#[]⟩ := by unfold pt; rw [List.getElem?_eq_none (by omega)]
   rw [hk, ht]
   obtain ⟨len, hlen⟩ : ∃ len, l.length = len := ⟨_, rfl⟩
   rw [hlen] at p0' hok hlt
   have d2 : decide ((n : Int) ≥ (len : Int)) = true := decide_eq_true (by omega)
   have d3 : (n : Int) ≥ (len : Int) := by omega
   clear hk ht hle hlen HT hb1
   go_enter Tryz.func178, Tryz.ntmps178
   go_wp2_with fail
   try rw [hW1]
   go_quiet (fail)
   generalize hW9 : World.drewN _ _ = W9
   have r0 : W9.cell? ⟨P, 2, none⟩ = some (.int .i64 S) := by rw [← hW9]; exact p2'
   have u0 : W9.cell? ⟨W.heap.size, 0, none⟩ = some (.int .i64 0) := by rw [← hW9]; exact t0
   have u1 : W9.cell? ⟨W.heap.size, 1, none⟩ = some (.string ⟨#[]⟩) := by rw [← hW9]; exact t1
   have u2 : W9.cell? ⟨W.heap.size, 2, none⟩ = some (.int .i64 0) := by rw [← hW9]; exact t2
   have hf9 : ∀ o, W9.frozen? ⟨W.heap.size, o, none⟩ = false := fun o => by rw [← hW9]; exact hf1 o
   have HB9 : Hid (Below W.heap.size W W9) := Hi (by rw [← hW9]; exact HB1.out.trans ⟨rfl, rfl, rfl, Nat.le_refl _, fun _ _ => rfl⟩)
   clear hW9 p0' p1' p2' p8' t0 t1 t2 hf1
   go_wp2_with fail
   refine bodyPost_ret (v := .agg #[.int .i64 0, .string ⟨#[]⟩, .int .i64 S]) (by simp [results, Tryz.f178, go_sem, u0, u1, u2]) rfl ?_
   exact ⟨⟨_, rfl⟩, ((HB9.out.setCell (p := ⟨W.heap.size, 0, none⟩) (Nat.le_refl _) _).setCell (p := ⟨W.heap.size, 1, none⟩) (Nat.le_refl _) _).setCell (p := ⟨W.heap.size, 2, none⟩) (Nat.le_refl _) _⟩

theorem InAt.step {l : List Tk} {P n : Nat} {W : World} (h : InAt l P n W) (hn : n < l.length) : ∃ W', W.setCell ⟨P, 1, none⟩ (.int .i64 ((n : Int) + 1)) = W' ∧ InAt l P (n + 1) W' ∧ On P W W' := by
 have := h.set (n + 1) (by omega)
 rwa [show (((n + 1 : Nat) : Int)) = (n : Int) + 1 by omega] at this

theorem sees_any {l : List Tk} {P n : Nat} {W : World} (h : InAt l P n W) (s : ByteArray) :
   Calls Tryz.prog 177 #[.pointer (some ⟨P, 0, none⟩), .string s] W fun e w' => e = .returned (.bool (seesL l n s)) ∧ Below W.heap.size W w' := by
 have HH := Hi (here_any h)
 obtain ⟨k, hk⟩ : ∃ k, pk l n = k := ⟨_, rfl⟩
 obtain ⟨t, ht⟩ : ∃ t, pt l n = t := ⟨_, rfl⟩
 have HS := Hi (show seesL l n s = (decide (4 ≤ k) && (t.toList == s.toList)) by unfold seesL; rw [hk, ht])
 rw [hk, ht] at HH
 clear h hk ht
 obtain ⟨D, hD⟩ : ∃ D, decide ((k : Int) ≥ 4) = D := ⟨_, rfl⟩
 have HD := Hi (show decide (4 ≤ k) = D from hD)
 have hg : ((k : Int) ≥ 4) = (D = true) := by rw [← hD]; simp
 cases D with
 | false =>
   have hlt : ¬ (4 ≤ k) := by have := of_decide_eq_false hD; omega
   clear hg
   go_enter Tryz.func177, Tryz.ntmps177
   go_wp2_with (go_at_call 178; refine HH.out.mono ?_; rintro e W2 ⟨⟨A, rfl⟩, hB2⟩; have HB2 := Hi hB2; clear hB2)
   go_ret
   exact ⟨by rw [HS.out, HD.out]; rfl, HB2.out.alloc HB2.out.size _⟩
 | true =>
   have hlt : 4 ≤ k := by have := of_decide_eq_true hD; omega
   obtain ⟨E, hE⟩ : ∃ E, (t.toList == s.toList) = E := ⟨_, rfl⟩
   rw [hE] at HS
   clear hg
   go_enter Tryz.func177, Tryz.ntmps177
   go_wp2_with (go_at_call 178; refine HH.out.mono ?_; rintro e W2 ⟨⟨A, rfl⟩, hB2⟩; have HB2 := Hi hB2; clear hB2)
   go_ret
   exact ⟨by rw [HS.out, HD.out]; rfl, HB2.out.alloc HB2.out.size _⟩
end Go.Proofs.YtlmdhlckgbgfhaaGreatDoor
namespace Go.Proofs.YtlmdhlckgbgfhaaGreatDoor
open Go.RowKit Go.Shelf
attribute [local go_sem] Oper.semAt_some

theorem tok_row (W : World) (K : Int) (x : ByteArray) (a : Int) : ∃ W4, W.alloc (.cells #[.int .i64 K, .string x, .int .i64 a] 153) = W4 ∧ W4.heap[W.heap.size]? = some (.cells #[.int .i64 K, .string x, .int .i64 a] 153 (0, 0)) ∧ Below W.heap.size W W4 :=
 ⟨_, rfl, World.alloc_heap_new _ _, bR.alloc (Nat.le_refl _) _⟩
theorem is_any {l : List Tk} {P n : Nat} {W : World} (h : InAt l P n W) (s : ByteArray) :
   Calls Tryz.prog 151 #[.pointer (some ⟨P, 0, none⟩), .string s] W fun e w' => e = .returned (.bool (seesL l n s)) ∧ On P W w' ∧ InAt l P (if seesL l n s = true then n + 1 else n) w' := by
 have HH := Hi (sees_any h s)
 have HI := Hi h
 have hok := h.ok.1
 obtain ⟨D, hD⟩ : ∃ D, seesL l n s = D := ⟨_, rfl⟩
 rw [hD] at HH ⊢
 cases D with
 | false =>
   clear hD
   go_enter Tryz.func151, Tryz.ntmps151
   go_wp2_with (go_at_call 177; refine HH.out.mono ?_; rintro e W2 ⟨rfl, hB2⟩; have HB2 := Hi hB2; clear hB2)
   go_ret
   exact ⟨rfl, On.of_below HB2.out, by simpa using HI.out.grow HB2.out⟩
 | true =>
   have hlt := sees_pos hD
   clear hD
   have hn : n < 40000 := by omega
   have hw : IntKind.i64.wrap ((n : Int) + 1) = (n : Int) + 1 := IntWalk.i64_in _ (by omega)
   go_enter Tryz.func151, Tryz.ntmps151
   go_wp2_with (go_at_call 177; refine HH.out.mono ?_; rintro e W2 ⟨rfl, hB2⟩; have hI2 := HI.out.grow hB2; obtain ⟨_, _, _, _, p1, _, _, _⟩ := hI2.cells; have hf := hI2.frozen; obtain ⟨W3, hW3, hI3, hO3⟩ := hI2.step hlt; have HI3 := Hi hI3; have HO3 := Hi ((On.of_below hB2).trans hO3); clear hB2 hI2 hI3 hO3)
   go_ret
   exact ⟨rfl, HO3.out, HI3.out⟩
theorem must_any {l : List Tk} {P n : Nat} {W : World} (h : InAt l P n W) (s : ByteArray) (hs : seesL l n s = true) :
   Calls Tryz.prog 213 #[.pointer (some ⟨P, 0, none⟩), .string s] W fun e w' => e = .returned (.tuple #[]) ∧ On P W w' ∧ InAt l P (n + 1) w' := by
 have HH := is_any h s
 rw [hs, if_pos rfl] at HH
 have HH := Hi HH
 clear h hs
 go_enter Tryz.func213, Tryz.ntmps213
 go_wp2_with (go_at_call 151; refine HH.out.mono ?_; rintro e W2 ⟨rfl, hO2, hI2⟩; have HI2 := Hi hI2; have HO2 := Hi hO2; clear hO2 hI2)
 go_end0
 exact ⟨rfl, HO2.out, HI2.out⟩
theorem kind_any {l : List Tk} {P n : Nat} {W : World} (h : InAt l P n W) (k : Int) (hk : pk l n = k) (h0 : k ≠ 0) :
   Calls Tryz.prog 212 #[.pointer (some ⟨P, 0, none⟩), .int .i64 k] W fun e w' => e = .returned (.string (pt l n)) ∧ On P W w' ∧ InAt l P (n + 1) w' := by
 have HH := here_any h
 rw [hk] at HH
 have HH := Hi HH
 have HI := Hi h
 have hok := h.ok.1
 have hlt := pk_pos (by rw [hk]; exact h0)
 obtain ⟨t, ht⟩ : ∃ t, pt l n = t := ⟨_, rfl⟩
 rw [ht] at HH ⊢
 clear h ht hk h0
 have hn : n < 40000 := by omega
 have hw : IntKind.i64.wrap ((n : Int) + 1) = (n : Int) + 1 := IntWalk.i64_in _ (by omega)
 go_enter Tryz.func212, Tryz.ntmps212
 go_wp2_with (go_at_call 178; refine HH.out.mono ?_; rintro e W2 ⟨⟨A, rfl⟩, hB2⟩; obtain ⟨W4, hW4, ht4, hB24⟩ := tok_row W2 k t A; have hB4 := hB2.trans (hB24.mono hB2.size); have hI4 := HI.out.grow hB4; have q0 := cells_at ht4 0 _ rfl; have q1 := cells_at ht4 1 _ rfl; obtain ⟨_, _, _, _, p1, _, _, _⟩ := hI4.cells; have hf := hI4.frozen; obtain ⟨W5, hW5, hI5, hO5⟩ := hI4.step hlt; have ht5 := (hO5.block W2.heap.size (gL ht4) (by have := HI.out.lt; have := hB2.size; omega)).trans ht4; have r1 := cells_at ht5 1 _ rfl; have HI5 := Hi hI5; have HO5 := Hi ((On.of_below hB4).trans hO5); clear hB2 hB24 hB4 ht4 ht5 hI4 hI5 hO5)
 go_ret
 exact ⟨rfl, HO5.out, HI5.out⟩
end Go.Proofs.YtlmdhlckgbgfhaaGreatDoor
namespace Go.Proofs.YtlmdhlckgbgfhaaGreatDoor
open Go.RowKit Go.Shelf
attribute [local go_sem] Oper.semAt_some

theorem room_any {P : Nat} (n m : Nat) (h : n < m) (_ : m ≤ 1000) (W : World) :
   Calls Tryz.prog 217 #[.pointer (some ⟨P, 0, none⟩), .int .i64 n, .int .i64 m] W fun e w' => e = .returned (.tuple #[]) ∧ W = w' := by
 have d : ¬ ((n : Int) ≥ (m : Int)) := by omega
 have d2 : decide ((n : Int) ≥ (m : Int)) = false := decide_eq_false d
 clear h
 go_enter Tryz.func217, Tryz.ntmps217
 go_wp2
 go_end0
 exact ⟨rfl, rfl⟩
theorem opnew_any (s : ByteArray) (a : Option Addr) (n cap : Nat) (W : World) :
   Calls Tryz.prog 179 #[.string s, .slice a n cap] W fun e w' => e = .returned (.agg #[.int .u8 5, .int .i64 0, .string s, .slice a n cap]) ∧ Below W.heap.size W w' := by
 obtain ⟨W1, hW1⟩ : ∃ W1, W.alloc (.cells #[.int .u8 0, .int .i64 0, .string ⟨#[]⟩, .slice none 0 0] 24) = W1 := ⟨_, rfl⟩
 have hb1 : Below W.heap.size W W1 := by rw [← hW1]; exact bR.alloc (Nat.le_refl _) _
 have hx1 : W1.heap[W.heap.size]? = some (.cells #[.int .u8 0, .int .i64 0, .string ⟨#[]⟩, .slice none 0 0] 24 (0, 0)) := by rw [← hW1]; exact World.alloc_heap_new _ _
 have hf1 : ∀ o, W1.frozen? ⟨W.heap.size, o, none⟩ = false := fun o => by simp [World.frozen?, hx1]
 have t0 := cells_at hx1 0 _ rfl
 have t1 := cells_at hx1 1 _ rfl
 have t2 := cells_at hx1 2 _ rfl
 have t3 := cells_at hx1 3 _ rfl
 have HB1 := Hi hb1
 clear hx1 hb1
 go_enter Tryz.func179, Tryz.ntmps179
 go_wp2
 refine bodyPost_ret (v := .agg #[.int .u8 5, .int .i64 0, .string s, .slice a n cap]) (by simp [results, Tryz.f179, go_sem, t0, t1, t2, t3]) rfl ?_
 exact ⟨rfl, (((HB1.out.setCell (p := ⟨W.heap.size, 0, none⟩) (Nat.le_refl _) _).setCell (p := ⟨W.heap.size, 1, none⟩) (Nat.le_refl _) _).setCell (p := ⟨W.heap.size, 2, none⟩) (Nat.le_refl _) _).setCell (p := ⟨W.heap.size, 3, none⟩) (Nat.le_refl _) _⟩

theorem valL_append : ∀ (l : List UInt8) (c : UInt8) (n : Int), valL (l ++ [c]) n = wrap64 (wrap64 (valL l n * 10) + ((c.toNat : Int) - 48) % 256)
 | [], _, _ => rfl
 | x :: l, c, n => by
   simp only [List.cons_append, valL]
   exact valL_append l c _
theorem value04_any (s : ByteArray) (hs : s.size ≤ maxLen) (W : World) :
   Calls Tryz.prog 211 #[.string s] W fun e w' => e = .returned (.int .i64 (valT s)) ∧ W = w' := by
 have hm : s.size ≤ 9223372036854775807 := by unfold maxLen at hs; omega
 clear hs
 go_enter Tryz.func211, Tryz.ntmps211
 go_wp2
 go_loop [3, 4] (fun v i => ∃ j : Nat, j ≤ s.size ∧ i = .int .i64 j ∧ v = .int .i64 (valL (s.toList.take j) 0)) (fun _ i => s.size - (intOf i).toNat)
 case atStart => exact ⟨0, Nat.zero_le _, rfl, rfl⟩
 case round =>
   obtain ⟨j, hj, rfl, rfl⟩ := hrel
   obtain ⟨V, hV⟩ : ∃ V, valL (s.toList.take j) 0 = V := ⟨_, rfl⟩
   rw [hV]
   have HV := Hi hV
   clear hV
   by_cases hlt : j < s.size
   · have i1 : (0 : Int) ≤ (j : Int) := by omega
     have i2 : (j : Int) < (s.size : Int) := by omega
     go_wp2
     go_round
     case rel =>
       refine ⟨j + 1, by omega, by go_num, ?_⟩
       have e : s.toList.take (j + 1) = s.toList.take j ++ [s[j]] := by
         rw [List.take_succ_eq_append_getElem (by rw [ByteArray.toList_eq]; simpa using hlt)]
         simp only [ByteArray.toList_eq]
         rfl
       rw [e, valL_append, HV.out]
     case measure => simp [intOf]; omega
   · have i2 : ¬ (j : Int) < (s.size : Int) := by omega
     have e : s.toList.take j = s.toList := List.take_of_length_le (by rw [ByteArray.toList_eq]; simpa using hlt)
     rw [e] at HV
     have HW := Hi (show valT s = V from HV.out)
     go_wp2
     go_ret
     exact ⟨by rw [HW.out]; rfl, rfl⟩

theorem depthL_snoc : ∀ (ts : List Tm) (t : Tm), Tm.depthL (ts ++ [t]) = max (Tm.depthL ts) t.depth
 | [], t => by simp [Tm.depthL]
 | a :: ts, t => by simp only [List.cons_append, Tm.depthL, depthL_snoc ts t]; omega
theorem depth04_any (t : Tm) : ∀ (c0 c1 c2 c3 : Value) (w : World), IsTm w.heap.size w c0 c1 c2 c3 t → t.depth ≤ 1000000 →
   Calls Tryz.prog 152 #[.agg #[c0, c1, c2, c3]] w fun e w' => e = .returned (.int .i64 t.depth) ∧ Below w.heap.size w w' := by
 induction t using Tm.ind with
 | h k n s us ih =>
   intro c0 c1 c2 c3 w h hd
   simp only [IsTm] at h
   obtain ⟨rfl, _, rfl, _, rfl, _, a, cap, rfl, hl, hr⟩ := h
   simp only [Tm.depth] at hd ⊢
   obtain ⟨W1, hW1, hq, hb1⟩ : ∃ W1, w.alloc (.cells #[.int .u8 k, .int .i64 n, .string s, .slice a us.length cap] 24) = W1 ∧ W1.heap[w.heap.size]? = some (.cells #[.int .u8 k, .int .i64 n, .string s, .slice a us.length cap] 24 (0, 0)) ∧ Below w.heap.size w W1 :=
     ⟨_, rfl, World.alloc_heap_new _ _, bR.alloc (Nat.le_refl _) _⟩
   have HR := Hi hr
   have HQ := Hi hq
   have HB1 := Hi hb1
   have HD := Hi hd
   have hlen : us.length ≤ 9223372036854775807 := by unfold maxLen at hl; exact hl
   clear hr hq hb1 hd hl
   go_enter Tryz.func152, Tryz.ntmps152
   go_wp2
   go_loopw [3, 4] (fun v i wr => ∃ j : Nat, j ≤ us.length ∧ i = .int .i64 j ∧ v = .int .i64 (Tm.depthL (us.take j)) ∧ Below W1.heap.size W1 wr) (fun _ i _ => us.length - (intOf i).toNat)
   case atStart => exact ⟨0, Nat.zero_le _, rfl, rfl, Below.refl _ _⟩
   case round =>
     obtain ⟨j, hj, rfl, rfl, hB⟩ := hrel
     have hq1 := (hB.block w.heap.size (gL HQ.out)).trans HQ.out
     have q3 := cells_at hq1 3 _ rfl
     obtain ⟨V, hV⟩ : ∃ V, Tm.depthL (us.take j) = V := ⟨_, rfl⟩
     rw [hV]
     have HV := Hi hV
     have HB := Hi hB
     clear hV hq1 hB
     by_cases hlt : j < us.length
     · obtain ⟨g, off, rfl, hg, hi⟩ := HR.out (by intro e; rw [e] at hlt; simp at hlt)
       have hB0 : Below w.heap.size w wr := HB1.out.trans (HB.out.mono HB1.out.size)
       obtain ⟨x0, x1, x2, x3, y0, y1, y2, y3, ht⟩ := (hi.below hB0 hg).at j hlt
       have HI := Hi (ih us[j] (List.getElem_mem hlt) x0 x1 x2 x3 wr (ht.mono hB0.size) (by have := HD.out; have := Tm.depthL_mem (List.getElem_mem hlt); omega))
       obtain ⟨D, hD⟩ : ∃ D, us[j].depth = D := ⟨_, rfl⟩
       rw [hD] at HI
       have HDD := Hi hD
       have i1 : (0 : Int) ≤ (j : Int) := by omega
       have i2 : (j : Int) < (us.length : Int) := by omega
       clear hi hB0 ht hD
       go_wp2_with (go_at_call 152; refine HI.out.mono ?_; rintro e w5 ⟨rfl, hb5⟩; have HB5 := Hi (HB.out.trans (hb5.mono HB.out.size)); clear hb5)
       go_roundw
       case rel =>
         refine ⟨j + 1, by omega, by go_num, ?_, HB5.out⟩
         rw [List.take_succ_eq_append_getElem hlt, depthL_snoc, HV.out, HDD.out]
         congr 1
         omega
       case measure => simp [intOf]; omega
     · have i2 : ¬ (j : Int) < (us.length : Int) := by omega
       have e : us.take j = us := List.take_of_length_le (by omega)
       rw [e] at HV
       have hs1 : IntKind.i64.wrap ((V : Int) + 1) = (V : Int) + 1 := IntWalk.i64_in _ (by have := HD.out; have := HV.out; omega)
       go_wp2
       go_ret
       refine ⟨?_, HB1.out.trans (HB.out.mono HB1.out.size)⟩
       rw [HV.out]
       show Ending.returned (.int .i64 ((V : Int) + 1)) = _
       congr 2
end Go.Proofs.YtlmdhlckgbgfhaaGreatDoor
namespace Go.Proofs.YtlmdhlckgbgfhaaGreatDoor
open Go.RowKit Go.Shelf
attribute [local go_sem] Oper.semAt_some

theorem deep_any {P at' : Nat} (x : Nat) (hx : x ≤ 100) (t : Tm) (c0 c1 c2 c3 : Value) (W : World) (h : IsTm W.heap.size W c0 c1 c2 c3 t) (hd : t.depth ≤ 12 + x) :
   Calls Tryz.prog 108 #[.pointer (some ⟨P, 0, none⟩), .agg #[c0, c1, c2, c3], .int .i64 x, .int .i64 at'] W fun e w' => e = .returned (.tuple #[]) ∧ Below W.heap.size W w' := by
 have h0 := h
 obtain ⟨k, n, s, us⟩ := t
 simp only [IsTm] at h
 obtain ⟨rfl, _, rfl, _, rfl, _, a, cap, rfl, hl, hr⟩ := h
 obtain ⟨W1, hW1, hq, hb1⟩ : ∃ W1, W.alloc (.cells #[.int .u8 k, .int .i64 n, .string s, .slice a us.length cap] 24) = W1 ∧ W1.heap[W.heap.size]? = some (.cells #[.int .u8 k, .int .i64 n, .string s, .slice a us.length cap] 24 (0, 0)) ∧ Below W.heap.size W W1 :=
   ⟨_, rfl, World.alloc_heap_new _ _, bR.alloc (Nat.le_refl _) _⟩
 have HD := Hi (depth04_any _ _ _ _ _ W1 ((h0.below hb1).mono hb1.size) (by omega))
 have q0 := cells_at hq 0 _ rfl
 have q1 := cells_at hq 1 _ rfl
 have q2 := cells_at hq 2 _ rfl
 have q3 := cells_at hq 3 _ rfl
 obtain ⟨D, hD⟩ : ∃ D, (Tm.mk k n s us).depth = D := ⟨_, rfl⟩
 rw [hD] at HD hd
 have hw : IntKind.i64.wrap (12 + (x : Int)) = 12 + (x : Int) := IntWalk.i64_in _ (by omega)
 have d1 : ¬ ((D : Int) > 12 + (x : Int)) := by omega
 have d2 : decide ((D : Int) > 12 + (x : Int)) = false := decide_eq_false d1
 have HB1 := Hi hb1
 obtain ⟨len, hlen⟩ : ∃ len, us.length = len := ⟨_, rfl⟩
 rw [hlen] at hW1 q3 HD ⊢
 clear hq hb1 hr h0 hl hd hD hlen
 go_enter Tryz.func108, Tryz.ntmps108
 go_wp2_with (go_at_call 152; refine HD.out.mono ?_; rintro e w2 ⟨rfl, hb2⟩; have HB2 := Hi (HB1.out.trans (hb2.mono HB1.out.size)); clear hb2)
 go_end0
 exact ⟨rfl, HB2.out⟩

def PPost (l : List Tk) (P m : Nat) (t : Tm) (W : World) (e : Ending) (W' : World) : Prop := (∃ a cap, e = .returned (.agg #[.int .u8 t.kind, .int .i64 t.num, .string t.name, .slice a t.args.length cap]) ∧
 IsTmIn (fun b => W.heap.size ≤ b ∧ b < W'.heap.size) W' (.int .u8 t.kind) (.int .i64 t.num) (.string t.name) (.slice a t.args.length cap) t) ∧ InAt l P m W' ∧ On P W W'
def PC (l : List Tk) (P : Nat) (fn : Nat) (r : Nat → Option (Tm × Nat)) : Prop := ∀ (n : Nat) (t : Tm) (m : Nat) (W : World), InAt l P n W → r n = some (t, m) → Calls Tryz.prog fn #[.pointer (some ⟨P, 0, none⟩)] W (PPost l P m t W)
theorem i64_small {n : Int} (h1 : -2147483648 ≤ n) (h2 : n ≤ 2147483648) : I64 n := by
 have h' : -9223372036854775808 ≤ n ∧ n ≤ 9223372036854775807 := by omega
 unfold I64 Lit.wf
 simp only [Bool.and_eq_true, decide_eq_true_eq]
 exact h'
theorem rowTerm (W : World) (c0 c1 c2 c3 : Value) : ∃ W1, W.alloc (.cells #[c0, c1, c2, c3] 24) = W1 ∧ W1.heap[W.heap.size]? = some (.cells #[c0, c1, c2, c3] 24 (0, 0)) ∧ Below W.heap.size W W1 ∧ W1.heap.size = W.heap.size + 1 :=
 ⟨_, rfl, World.alloc_heap_new _ _, bR.alloc (Nat.le_refl _) _, by simp⟩
theorem InAt.below {l : List Tk} {P n B : Nat} {W W' : World} (h : InAt l P n W) (hb : Below B W W') (hP : P < B) : InAt l P n W' := by
 obtain ⟨a, cap, S, h1, h2⟩ := h.mem
 exact ⟨h.ok, h.le, a, cap, S, (hb.block P hP).trans h1, h2.below hb (Nat.le_of_lt hP)⟩
theorem On.fresh {P B : Nat} {W W' W'' : World} (h : On P W W') (hb : Below B W' W'') (hB : W.heap.size ≤ B) : On P W W'' :=
 ⟨hb.os.trans h.os, hb.tape.trans h.tape, hb.output.trans h.output, Nat.le_trans h.size hb.size, fun k hk hne => (hb.block k (by omega)).trans (h.block k hk hne)⟩
theorem On.row {P k : Nat} {W W' : World} (h : On P W W') {o : Obj} (hk : W.heap[k]? = some o) (hne : k ≠ P) : W'.heap[k]? = some o := (h.block k (gL hk) hne).trans hk
theorem setTerm (W : World) (b : Nat) (c0 c1 c2 c3 d0 d1 d2 d3 : Value) (t : TypeId) (h : W.heap[b]? = some (.cells #[c0, c1, c2, c3] t (0, 0))) : ∃ W', (((W.setCell ⟨b, 0, none⟩ d0).setCell ⟨b, 1, none⟩ d1).setCell ⟨b, 2, none⟩ d2).setCell ⟨b, 3, none⟩ d3 = W' ∧ W'.heap[b]? = some (.cells #[d0, d1, d2, d3] t (0, 0)) ∧ Below b W W' ∧ W'.heap.size = W.heap.size ∧ ∀ k, k ≠ b → W'.heap[k]? = W.heap[k]? := by
 refine ⟨_, rfl, ?_, ((((Below.refl b W).setCell (p := ⟨b, 0, none⟩) (Nat.le_refl _) _).setCell (p := ⟨b, 1, none⟩) (Nat.le_refl _) _).setCell (p := ⟨b, 2, none⟩) (Nat.le_refl _) _).setCell (p := ⟨b, 3, none⟩) (Nat.le_refl _) _, by simp [World.setCell], fun k hk => ?_⟩
 · simp [World.setCell, Array.getElem?_modify, h]
 · simp [World.setCell, Array.getElem?_modify, Ne.symm hk]
theorem row_frozen {W : World} {b : Nat} {cs : Array Value} {t : TypeId} (h : W.heap[b]? = some (.cells cs t (0, 0))) (o : Nat) : W.frozen? ⟨b, o, none⟩ = false := by simp [World.frozen?, h]
theorem ownSlice {w : World} {base k size : Nat} {e : TypeId} {v : Value} {xs : List Value} (h : w.ownsRow base e size v k xs) : ∃ a n c, v = .slice a n c := by
 rcases h.2 with ⟨rfl, _⟩ | ⟨g, cap, cur, rfl, _⟩
 · exact ⟨_, _, _, rfl⟩
 · exact ⟨_, _, _, rfl⟩
theorem Vals.on {P base : Nat} {w w' : World} {v : Value} {ts : List Tm} (h : Vals none base w v ts) (ho : On P w w') (hP : P < base) : Vals none base w' v ts := by
 obtain ⟨xs, hw, hh, hx⟩ := h
 refine ⟨xs, hw.kept (row := some P) ⟨ho.os, ho.tape, ho.output, ho.size, fun k hk hne => ho.block k hk (fun e => hne (by rw [e]))⟩ (.inr (fun e => by have := (hw.lt P e).1; omega)), hh.keep fun b hf => ⟨⟨hf.1, Nat.lt_of_lt_of_le hf.2.1 ho.size, hf.2.2⟩, ho.block b hf.2.1 (by have := hf.1; omega)⟩, hx⟩
theorem IsTmsIn.re {ok ok' : Nat → Prop} {w : World} {b : Nat} (h : ∀ k, ok k → ok' k) : ∀ {ts : List Tm} {off : Nat}, IsTmsIn ok w b off ts → IsTmsIn ok' w b off ts
 | [], _, _ => by simp only [IsTmsIn]
 | t :: ts, off, ht => by
   simp only [IsTmsIn] at ht ⊢
   obtain ⟨c0, c1, c2, c3, h0, h1, h2, h3, hi, hr⟩ := ht
   exact ⟨c0, c1, c2, c3, h0, h1, h2, h3, hi.keep fun k hk => ⟨h k hk, rfl⟩, IsTmsIn.re h hr⟩
theorem Vals.args {base : Nat} {w : World} {v : Value} {ts : List Tm} (h : Vals none base w v ts) : ∃ (a : Option Addr) (cap : Nat), v = .slice a ts.length cap ∧ ts.length ≤ maxLen ∧ (ts ≠ [] → ∃ b off, a = some ⟨b, off, none⟩ ∧ (base ≤ b ∧ b < w.heap.size) ∧ IsTmsIn (fun b => base ≤ b ∧ b < w.heap.size) w b off ts) := by
 obtain ⟨xs, ho, hh, _⟩ := h
 have ho' := ho
 obtain ⟨_, ⟨rfl, hn⟩ | ⟨g, cap, cur, rfl, hb, hg, hc, hm, _, _⟩⟩ := ho
 · exact ⟨none, 0, by rw [hn], by rw [hn]; exact Nat.zero_le _, fun hne => absurd (List.length_eq_zero_iff.1 hn) hne⟩
 · refine ⟨some ⟨g, 0, none⟩, cap, rfl, Nat.le_trans hc hm, fun _ => ⟨g, 0, rfl, ⟨hb, (gL hg)⟩, ?_⟩⟩
   refine (HoldL.tms hh (off := 0) fun j u hu => ?_).re (fun b hf => ⟨hf.1, hf.2.1⟩)
   have := ho'.cells (g := g) rfl j u hu
   rwa [Addr.add_lit] at this
theorem tok_field0 (a b c : Value) (W : World) : (Instr.field 153 (.agg #[a, b, c]) 0).run Tryz.prog W = .ok a W := by kernel_rfl
theorem tok_field1 (a b c : Value) (W : World) : (Instr.field 153 (.agg #[a, b, c]) 1).run Tryz.prog W = .ok b W := by kernel_rfl
theorem Vals.two {base : Nat} {w : World} {g : Nat} {c0 c1 c2 c3 d0 d1 d2 d3 : Value} {t u : Tm} (hb : base ≤ g) (hg : w.heap[g]? = some (.cells #[c0, c1, c2, c3, d0, d1, d2, d3] 24 (0, 0))) (h : IsTmIn (fun b => base ≤ b ∧ b < w.heap.size ∧ b ≠ g) w c0 c1 c2 c3 t) (h' : IsTmIn (fun b => base ≤ b ∧ b < w.heap.size ∧ b ≠ g) w d0 d1 d2 d3 u) :
   Vals none base w (.slice (some ⟨g, 0, none⟩) 2 2) [t, u] :=
 ⟨[c0, c1, c2, c3, d0, d1, d2, d3], ⟨rfl, .inr ⟨g, 2, #[c0, c1, c2, c3, d0, d1, d2, d3], rfl, hb, hg, Nat.le_refl _, by unfold maxLen; omega, rfl, rfl⟩⟩, (HoldL.one (h.keep fun b hf => ⟨⟨hf.1, hf.2.1, by simp [Value.ownBlock]; omega, by simp⟩, rfl⟩)).append (HoldL.one (h'.keep fun b hf => ⟨⟨hf.1, hf.2.1, by simp [Value.ownBlock]; omega, by simp⟩, rfl⟩)), fun _ e => by cases e⟩
theorem Vals.term {base lo : Nat} {w : World} {v : Value} {ts : List Tm} {k : Int} {s : ByteArray} (h : Vals none base w v ts) (hlo : lo ≤ base) (hk : 0 ≤ k ∧ k ≤ 255) (hs : s.size ≤ maxLen) : ∃ a cap, v = .slice a ts.length cap ∧ IsTmIn (fun b => lo ≤ b ∧ b < w.heap.size) w (.int .u8 k) (.int .i64 0) (.string s) (.slice a ts.length cap) (.mk k 0 s ts) := by
 obtain ⟨a, cap, e, hl, hr⟩ := h.args
 refine ⟨a, cap, e, ?_⟩
 unfold IsTmIn
 refine ⟨rfl, hk, rfl, i64_small (by decide) (by decide), rfl, hs, a, cap, rfl, hl, fun hne => ?_⟩
 obtain ⟨b, off, e1, e2, e3⟩ := hr hne
 exact ⟨b, off, e1, ⟨by omega, e2.2⟩, e3.re fun k hk => ⟨by omega, hk.2⟩⟩
end Go.Proofs.YtlmdhlckgbgfhaaGreatDoor
namespace Go.Proofs.YtlmdhlckgbgfhaaGreatDoor
open Go.RowKit Go.Shelf
attribute [local go_sem] Oper.semAt_some

theorem pt_size {l : List Tk} (h : TokOk l) (n : Nat) : (pt l n).size ≤ maxLen := by
 unfold pt
 cases hx : l[n]? with
 | none => exact Nat.zero_le _
 | some x => exact h.2 x (List.mem_of_getElem? hx)
theorem named_leaf {l : List Tk} {P n : Nat} {W : World} (h : InAt l P n W) (hk : pk l n = 1) (hs : seesL l (n + 1) ⟨#[40]⟩ = false) :
   Calls Tryz.prog 214 #[.pointer (some ⟨P, 0, none⟩)] W (PPost l P (n + 1) (.mk 2 0 (pt l n) []) W) := by
 obtain ⟨W1, hW1, hr1, hb1, hz1⟩ := rowTerm W (.int .u8 0) (.int .i64 0) (.string ⟨#[]⟩) (.slice none 0 0)
 have hI1 := h.grow hb1
 have HK := Hi (kind_any hI1 1 hk (by decide))
 have HTX := Hi (pt_size h.ok n)
 obtain ⟨s, hst⟩ : ∃ s, pt l n = s := ⟨_, rfl⟩
 rw [hst] at HK HTX ⊢
 have HS := Hi hs
 have HR1 := Hi hr1
 have HB1 := Hi hb1
 have HP := Hi h.lt
 have HZ1 := Hi hz1
 clear h hk hs hI1 hst hr1 hb1 hz1
 go_enter Tryz.func214, Tryz.ntmps214
 go_wp2_with (first
   | (go_at_call 212; refine HK.out.mono ?_; clear HK; rintro e W2 ⟨rfl, hO2, hI2⟩
      obtain ⟨W3, hW3, hr3, hb3, hz3⟩ := rowTerm W2 (.int .u8 2) (.int .i64 0) (.string s) (.slice none 0 0)
      have hI3 := hI2.grow hb3
      have HIS := Hi (is_any hI3 ⟨#[40]⟩)
      have HO3 := Hi (hO2.trans (On.of_below hb3))
      have HZ2 := Hi (And.intro hI2.lt hO2.size)
      have HR3 := Hi hr3
      have HW3 := Hi hW3
      clear hI2 hO2 hb3 hI3 hr3 hz3 hW3)
   | (go_at_call 151; rw [HS.out] at HIS; rw [HW3.out]; refine HIS.out.mono ?_; clear HIS; rintro e W4 ⟨rfl, hO4, hI4⟩
      have hr4 := hO4.row HR3.out (by have := HZ2.out.1; omega)
      have q0 := cells_at hr4 0 _ rfl
      have q1 := cells_at hr4 1 _ rfl
      have q2 := cells_at hr4 2 _ rfl
      have q3 := cells_at hr4 3 _ rfl
      have hro := (HO3.out.trans hO4).row HR1.out (by have := HP.out; omega)
      have o0 := cells_at hro 0 _ rfl
      have o1 := cells_at hro 1 _ rfl
      have o2 := cells_at hro 2 _ rfl
      have o3 := cells_at hro 3 _ rfl
      have hf := row_frozen hro
      obtain ⟨W5, hW5, hr5, hb5, hz5, hk5⟩ := setTerm W4 W.heap.size _ _ _ _ (.int .u8 2) (.int .i64 0) (.string s) (.slice none 0 0) _ hro
      have HI4 := Hi hI4
      have HR5 := Hi hr5
      have HB5 := Hi hb5
      have HO4 := Hi (HO3.out.trans hO4)
      clear hr4 hro hI4 hr5 hb5 hz5 hk5 hO4))
 refine bodyPost_ret (v := .agg #[.int .u8 2, .int .i64 0, .string s, .slice none 0 0]) (by simp [results, Tryz.f214, go_sem, cells_at HR5.out 0 _ rfl, cells_at HR5.out 1 _ rfl, cells_at HR5.out 2 _ rfl, cells_at HR5.out 3 _ rfl]) rfl ?_
 refine ⟨⟨none, 0, rfl, ?_⟩, HI4.out.below (HB5.out.mono (Nat.le_refl _)) HP.out, ((On.of_below HB1.out).trans HO4.out).fresh HB5.out (Nat.le_refl _)⟩
 unfold IsTmIn
 exact ⟨rfl, by decide, rfl, i64_small (by decide) (by decide), rfl, HTX.out, none, 0, rfl, Nat.zero_le _, fun e => absurd rfl e⟩

theorem info_term04 : (Tryz.prog.info? 24).map (fun i => (i.zero, i.size, i.bytes)) = some (some (.agg #[.int .u8 0, .int .i64 0, .string ⟨#[]⟩, .slice none 0 0]), 4, 56) := by kernel_rfl
def CallF (l : List Tk) (P m : Nat) (t : Tm) (w0 : World) (v : Value) (w : World) : Prop := ∃ a cap, v = .agg #[.int .u8 t.kind, .int .i64 t.num, .string t.name, .slice a t.args.length cap] ∧
 IsTmIn (fun b => w0.heap.size ≤ b ∧ b < w.heap.size) w (.int .u8 t.kind) (.int .i64 t.num) (.string t.name) (.slice a t.args.length cap) t ∧ InAt l P m w
theorem CallF.grow {l : List Tk} {P m : Nat} {t : Tm} {w0 : World} {v : Value} {w w' : World} (h : CallF l P m t w0 v w) (hb : Below w.heap.size w w') : CallF l P m t w0 v w' := by
 obtain ⟨a, cap, e, h1, h2⟩ := h
 exact ⟨a, cap, e, h1.keep fun b hf => ⟨⟨hf.1, Nat.lt_of_lt_of_le hf.2 hb.size⟩, hb.block b hf.2⟩, h2.grow hb⟩
def OneF (l : List Tk) (P m : Nat) (t : Tm) (w0 : World) (v : Value) (w : World) : Prop := ∃ a cap g, v = .slice (some ⟨g, 0, none⟩) 1 1 ∧ w0.heap.size ≤ g ∧
 w.heap[g]? = some (.cells #[.int .u8 t.kind, .int .i64 t.num, .string t.name, .slice a t.args.length cap] 24 (0, 0)) ∧
 IsTmIn (fun b => w0.heap.size ≤ b ∧ b < g) w (.int .u8 t.kind) (.int .i64 t.num) (.string t.name) (.slice a t.args.length cap) t ∧ InAt l P m w
theorem OneF.grow {l : List Tk} {P m : Nat} {t : Tm} {w0 : World} {v : Value} {w w' : World} (h : OneF l P m t w0 v w) (hb : Below w.heap.size w w') : OneF l P m t w0 v w' := by
 obtain ⟨a, cap, g, e, h0, h1, h2, h3⟩ := h
 have hg := (gL h1)
 exact ⟨a, cap, g, e, h0, (hb.block g hg).trans h1, h2.keep fun b hf => ⟨hf, hb.block b (by omega)⟩, h3.grow hb⟩
def FAr (l : List Tk) (P m T : Nat) (V : Value) (t : Tm) (w0 : World) : Facts := fun i v w => match i with
 | 0 => v = .pointer (some ⟨T, 3, none⟩)
 | 1 => v = V
 | 2 => v = .pointer (some ⟨P, 0, none⟩)
 | 3 => CallF l P m t w0 v w
 | 4 => OneF l P m t w0 v w
 | _ => True
theorem FAr_grow {l : List Tk} {P m T : Nat} {V : Value} {t : Tm} {w0 : World} (i : Nat) (v : Value) (w w' : World) (h : FAr l P m T V t w0 i v w) (hb : Below w.heap.size w w') : FAr l P m T V t w0 i v w' := by
 match i, h with
 | 0, h => exact h
 | 1, h => exact h
 | 2, h => exact h
 | 3, h => exact CallF.grow h hb
 | 4, h => exact OneF.grow h hb
 | _ + 5, _ => trivial
theorem setFirst (W : World) (b : Nat) (c0 c1 c2 c3 d0 : Value) (t : TypeId) (h : W.heap[b]? = some (.cells #[c0, c1, c2, c3] t (0, 0))) : ∃ W', W.setCell ⟨b, 0, none⟩ d0 = W' ∧ W'.heap[b]? = some (.cells #[d0, c1, c2, c3] t (0, 0)) ∧ Below b W W' ∧ W'.heap.size = W.heap.size ∧ ∀ k, k ≠ b → W'.heap[k]? = W.heap[k]? := by
 refine ⟨_, rfl, ?_, (Below.refl b W).setCell (p := ⟨b, 0, none⟩) (Nat.le_refl _) _, by simp [World.setCell], fun k hk => ?_⟩
 · simp [World.setCell, Array.getElem?_modify, h]
 · simp [World.setCell, Array.getElem?_modify, Ne.symm hk]
theorem setLast (W : World) (b : Nat) (c0 c1 c2 c3 d3 : Value) (t : TypeId) (h : W.heap[b]? = some (.cells #[c0, c1, c2, c3] t (0, 0))) : ∃ W', W.setCell ⟨b, 3, none⟩ d3 = W' ∧ W'.heap[b]? = some (.cells #[c0, c1, c2, d3] t (0, 0)) ∧ Below b W W' ∧ W'.heap.size = W.heap.size ∧ ∀ k, k ≠ b → W'.heap[k]? = W.heap[k]? := by
 refine ⟨_, rfl, ?_, (Below.refl b W).setCell (p := ⟨b, 3, none⟩) (Nat.le_refl _) _, by simp [World.setCell], fun k hk => ?_⟩
 · simp [World.setCell, Array.getElem?_modify, h]
 · simp [World.setCell, Array.getElem?_modify, Ne.symm hk]
structure ArgI (l : List Tk) (P T : Nat) (part : Nat → Option (Tm × Nat)) (s : ByteArray) (us : List Tm) (m : Nat) (W W5 : World) (k : Nat) (acc : List Tm) (i : Nat) (V : Value) (wr : World) : Prop where
 len : acc.length + k = 8
 eq : argsP part l k i acc = some (us, m)
 ia : InAt l P i wr
 box : wr.heap[T]? = some (.cells #[.int .u8 4, .int .i64 0, .string s, V] 24 (0, 0))
 res : wr.heap[W.heap.size]? = some (.cells #[.int .u8 0, .int .i64 0, .string ⟨#[]⟩, .slice none 0 0] 24 (0, 0))
 vals : Vals none W5.heap.size wr V acc
 on : On P W wr
 sz : W5.heap.size ≤ wr.heap.size
theorem named_args {l : List Tk} {P n f : Nat} {W : World} (hpt : PC l P 107 (fun i => partP f l i)) (h : InAt l P n W) (hk : pk l n = 1) (hs : seesL l (n + 1) ⟨#[40]⟩ = true) {us : List Tm} {m : Nat} (ha : argsP (fun i => partP f l i) l 8 (n + 2) [] = some (us, m)) :
   Calls Tryz.prog 214 #[.pointer (some ⟨P, 0, none⟩)] W (PPost l P m (.mk 4 0 (pt l n) us) W) := by
 obtain ⟨W1, hW1, hr1, hb1, hz1⟩ := rowTerm W (.int .u8 0) (.int .i64 0) (.string ⟨#[]⟩) (.slice none 0 0)
 have hI1 := h.grow hb1
 have HK := Hi (kind_any hI1 1 hk (by decide))
 have HTX := Hi (pt_size h.ok n)
 obtain ⟨s, hst⟩ : ∃ s, pt l n = s := ⟨_, rfl⟩
 rw [hst] at HK HTX ⊢
 have HS := Hi hs
 have HR1 := Hi hr1
 have HB1 := Hi hb1
 have HP := Hi h.lt
 have HZ1 := Hi hz1
 have HPT := Hi hpt
 have HA := Hi ha
 clear h hk hs hI1 hst hr1 hb1 hz1 hpt ha
 go_enter Tryz.func214, Tryz.ntmps214
 go_wp2_with (first
   | (go_at_call 212; refine HK.out.mono ?_; clear HK; rintro e W2 ⟨rfl, hO2, hI2⟩
      obtain ⟨W3, hW3, hr3, hb3, hz3⟩ := rowTerm W2 (.int .u8 2) (.int .i64 0) (.string s) (.slice none 0 0)
      have hI3 := hI2.grow hb3
      have HIS := Hi (is_any hI3 ⟨#[40]⟩)
      have HO3 := Hi (hO2.trans (On.of_below hb3))
      have HZ2 := Hi (And.intro hI2.lt hO2.size)
      have HR3 := Hi hr3
      have HW3 := Hi hW3
      clear hI2 hO2 hb3 hI3 hr3 hz3 hW3)
   | (go_at_call 151; rw [HS.out] at HIS; rw [HW3.out]; refine HIS.out.mono ?_; clear HIS; rintro e W4 ⟨rfl, hO4, hI4⟩
      rw [if_pos rfl] at hI4
      have hr4 := hO4.row HR3.out (by have := HZ2.out.1; omega)
      have hf := row_frozen hr4
      have q0 := cells_at hr4 0 _ rfl
      obtain ⟨W5, hW5, hr5, hb5, hz5, hk5⟩ := setFirst W4 W2.heap.size _ _ _ _ (.int .u8 4) _ hr4
      have hI5 := hI4.below hb5 HZ2.out.1
      have hO5 : On P W W5 := ((On.of_below HB1.out).trans (HO3.out.trans hO4)).fresh hb5 (by have := HZ2.out.2; have := HB1.out.size; omega)
      have hro := ((HO3.out.trans hO4).row HR1.out (by have := HP.out; omega))
      have hro5 := (hk5 W.heap.size (by have := HZ2.out.2; have := HZ1.out; omega)).trans hro
      have HI5 := Hi (show ArgI l P W2.heap.size (fun i => partP f l i) s us m W W5 8 [] (n + 2) (.slice none 0 0) W5 from ⟨rfl, HA.out, hI5, hr5, hro5, Vals.nil _ _ _, hO5, Nat.le_refl _⟩)
      have HT5 := Hi (show W2.heap.size < W5.heap.size from (gL hr5))
      clear hr4 hro hI4 hr5 hb5 hz5 hk5 hO4 hI5 hO5 hro5))
 obtain ⟨T, hT⟩ : ∃ T, W2.heap.size = T := ⟨_, rfl⟩
 rw [hT] at HI5 HT5 HZ2 ⊢
 clear hT
 go_loopg [26] 8 (fun k _ wr => ∃ (acc : List Tm) (i : Nat) (V : Value), ArgI l P T (fun i => partP f l i) s us m W W5 k acc i V wr)
 case atStart => exact ⟨[], n + 2, _, HI5.out⟩
 case round =>
   obtain ⟨acc, i, V, hA⟩ := hrel
   cases gk with
   | zero => have := hA.eq; simp [argsP] at this
   | succ k =>
   have heq := hA.eq
   simp only [argsP] at heq
   cases hpi : partP f l i with
   | none => rw [hpi] at heq; cases heq
   | some x =>
   obtain ⟨t1, m1⟩ := x
   rw [hpi] at heq
   simp only at heq
   obtain ⟨va, vc, rfl, _, _⟩ := hA.vals.tms
   have hlen8 : acc.length < 8 := by have := hA.len; omega
   have HPI := Hi hpi
   have HEQ := Hi heq
   have q3 := cells_at hA.box 3 _ rfl
   have HARG := Hi hA
   clear hA heq hpi
   obtain ⟨n1, hn1⟩ : ∃ n1, acc.length = n1 := ⟨_, rfl⟩
   rw [hn1] at HARG q3 hlen8
   have HN1 := Hi hn1
   have HRM := Hi (fun (W : World) => room_any (P := P) n1 8 hlen8 (by decide) W)
   clear hn1
   go_wp2_with (go_at_call 217; refine (HRM.out _).mono ?_; rintro e w2 ⟨rfl, rfl⟩)
   refine wp_region_rel_tail (by kernel_rfl) 5 3 (On P) (fun _ _ h => On.of_below h) (fun _ _ _ h k => h.trans k) (fun _ _ h => h.size) (by decide) (FAr l P m1 T (.slice va n1 vc) t1 wr) (by kernel_rfl) (by kernel_rfl) (steps_toR ?_) ?_
   · simp only [List.take_succ_cons, List.take_zero]
     refine ⟨?_, ?_, ?_, ?_, ?_, trivial⟩
     · intro a wx hb he hd hs ho hp
       refine ⟨rfl, ?_⟩
       have h3 : a.tmps.getD 3 undef = .pointer (some ⟨T, 0, none⟩) := (ho 3 (by kernel_rfl)).trans rfl
       unfold Oper.wp
       go_simp
       exact SteppedR.at (v := .pointer (some ⟨T, 3, none⟩)) (by first | rfl | simp) hd (show (0 : Nat) ≠ 3 by decide) bR rfl FAr_grow
     · intro a wx hb he hd hs ho hp
       refine ⟨rfl, ?_⟩
       have h17 : a.tmps.getD 17 undef = .pointer (some ⟨T, 3, none⟩) := facts_at hp 0 17 (by kernel_rfl)
       have hx := hb.row HARG.out.box (by have := HZ2.out.1; omega)
       have x3 := cells_at hx 3 _ rfl
       unfold Oper.wp
       go_simp
       exact SteppedR.at (v := .slice va n1 vc) (by first | rfl | simp) hd (show (1 : Nat) ≠ 3 by decide) bR rfl FAr_grow
     · intro a wx hb he hd hs ho hp
       refine ⟨rfl, ?_⟩
       have h0 : a.tmps.getD 0 undef = .pointer (some ⟨P, 0, none⟩) := (ho 0 (by kernel_rfl)).trans rfl
       unfold Oper.wp
       go_simp
       exact SteppedR.at (v := .pointer (some ⟨P, 0, none⟩)) (by first | rfl | simp) hd (show (2 : Nat) ≠ 3 by decide) bR rfl FAr_grow
     · intro a wx hb he hd hs ho hp
       refine ⟨rfl, ?_⟩
       have h19 : a.tmps.getD 19 undef = .pointer (some ⟨P, 0, none⟩) := facts_at hp 2 19 (by kernel_rfl)
       have hbe := he (Or.inl rfl)
       have hx := HPT.out i t1 m1 wx (HARG.out.ia.grow hbe) HPI.out
       unfold Oper.wp
       go_simp
       go_at_call 107
       refine hx.mono ?_
       rintro e w' ⟨⟨a', cap', rfl, ht'⟩, hI', hO'⟩
       refine SteppedR.call (by first | rfl | simp) hd rfl hO' ⟨a', cap', rfl, ht'.keep fun b hf => ⟨⟨by have := hbe.size; omega, hf.2⟩, rfl⟩, hI'⟩ ?_
       intro j u hne hw hj
       match j, hj with
       | 0, h => exact h
       | 1, h => exact h
       | 2, h => exact h
       | 3, _ => exact absurd rfl hne
       | 4, _ => exact absurd (hw.symm.trans (by kernel_rfl)) Bool.false_ne_true
       | _ + 5, _ => trivial
     · intro a wx hb he hd hs ho hp
       refine ⟨rfl, ?_⟩
       obtain ⟨a20, c20, h20, ht20, hI20⟩ : CallF l P m1 t1 wr (a.tmps.getD 20 undef) wx := facts_at hp 3 20 (by kernel_rfl)
       have s20 := qslot_of (hs.trans (show _ = 30 from rfl)) (by decide) h20
       unfold Oper.wp
       go_simp
       refine SteppedR.at rfl hd (show (4 : Nat) ≠ 3 by decide) (bR.alloc (Nat.le_refl _) _) ⟨a20, c20, wx.heap.size, rfl, hb.size, World.alloc_heap_new _ _, ht20.keep fun b hf => ⟨⟨hf.1, hf.2⟩, Below.heap_alloc _ _ _ hf.2⟩, hI20.grow (bR.alloc (Nat.le_refl _) _)⟩ FAr_grow
   · intro a wz hbz hd hs2 ho2 hf
     have k17 : a.tmps.getD 17 undef = .pointer (some ⟨T, 3, none⟩) := facts_toR hf 0 17 (by decide) (by kernel_rfl)
     have k18 : a.tmps.getD 18 undef = .slice va n1 vc := facts_toR hf 1 18 (by decide) (by kernel_rfl)
     have k19 : a.tmps.getD 19 undef = .pointer (some ⟨P, 0, none⟩) := facts_toR hf 2 19 (by decide) (by kernel_rfl)
     obtain ⟨a21, c21, g21, k21, hg21, hr21, ht21, hI21⟩ : OneF l P m1 t1 wr (a.tmps.getD 21 undef) wz := facts_toR hf 4 21 (by decide) (by kernel_rfl)
     obtain ⟨u20, k20⟩ : ∃ u, a.tmps.getD 20 undef = u := ⟨_, rfl⟩
     have hE := slots_mergeR [false, false, false, false, false, false, false, false, false, false, false, false, false, false, false, false, false, true, true, true, true, true, false, false, false, false, false, false, false, false] 30 hs2 rfl (by kernel_rfl) ho2
     simp only [mergeFrom, Nat.zero_add, Nat.reduceAdd, k17, k18, k19, k20, k21] at hE
     obtain ⟨TT, DD⟩ := a
     simp only at hE hd
     subst hd hE
     clear k17 k18 k19 k20 k21 hf hs2 ho2
     simp only [List.drop_succ_cons, List.drop_zero]
     obtain ⟨i0, hi, hz0, hz1, hz2⟩ := info_parts info_term04
     have hTP : T ≠ P := by have := HZ2.out.1; omega
     have hV := HARG.out.vals.on hbz (by have := HT5.out; have := HZ2.out.1; omega)
     have hbox := hbz.row HARG.out.box hTP
     have hres := hbz.row HARG.out.res (by have := HP.out; omega)
     have hON := HARG.out.on.trans hbz
     have hSZ := Nat.le_trans HARG.out.sz hbz.size
     obtain ⟨xs, hown, hh, _⟩ := hV
     rw [HN1.out] at hown
     have HH := Hi hh
     have HOWN := Hi hown
     have HBOX := Hi hbox
     have HRES := Hi hres
     have HON := Hi (And.intro hON hSZ)
     have HG21 := Hi (And.intro hg21 (And.intro hr21 (And.intro ht21 hI21)))
     clear hh hbox hres hON hSZ hg21 ht21 hI21 hbz
     refine wpList_append_own_at _ rfl (.tmp 18) (.tmp 21) 22 rfl W5.heap.size 24 i0 _ 4 56 Tryz.underlying22 hi hz0 hz1 hz2 rfl (by decide) (.slice va n1 vc) n1 xs rfl hown ⟨g21, 0, none⟩ 1 1 [.int .u8 t1.kind, .int .i64 t1.num, .string t1.name, .slice a21 t1.args.length c21] rfl rfl ?c1 ?c2 ?c3 ?c4 ?c5 ?_
     case c1 =>
       intro jj u' hu'
       rcases jj with _ | _ | _ | _ | jj
       · cases hu'; exact cells_at hr21 0 _ rfl
       · cases hu'; exact cells_at hr21 1 _ rfl
       · cases hu'; exact cells_at hr21 2 _ rfl
       · cases hu'; exact cells_at hr21 3 _ rfl
       · simp at hu'
     case c2 => simp [Value.oneCell']
     case c3 => unfold maxLen; omega
     case c4 => omega
     case c5 => exact HON.out.2
     clear hr21
     intro v' w' hown' hgrow _ hat
     obtain ⟨b1, b2, b3, rfl⟩ := ownSlice hown'
     have hownT : (Value.slice va n1 vc).ownBlock ≠ some T := fun e => by have := (HOWN.out.lt T e).1; have := HT5.out; omega
     have hownP : (Value.slice va n1 vc).ownBlock ≠ some P := fun e => by have := (HOWN.out.lt P e).1; have := HT5.out; have := HZ2.out.1; omega
     have hownR : (Value.slice va n1 vc).ownBlock ≠ some W.heap.size := fun e => by have := (HOWN.out.lt _ e).1; have := HT5.out; have := HZ2.out.2; have := HZ1.out; omega
     have hbox' := (hgrow.block T (gL HBOX.out) hownT.symm).trans HBOX.out
     have hres' := (hgrow.block W.heap.size (gL HRES.out) hownR.symm).trans HRES.out
     have hB' : Below W5.heap.size wz w' := ((Below.refl W5.heap.size wz).grown hgrow (by have := HON.out.2; omega) (fun k e => (HOWN.out.lt k e).1))
     have hI' : InAt l P m1 w' := HG21.out.2.2.2.below hB' (by have := HT5.out; have := HZ2.out.1; omega)
     have hON' : On P W w' := HON.out.1.fresh hB' (by have := HT5.out; have := HZ2.out.2; have := HZ1.out; omega)
     have hV' : Vals none W5.heap.size w' (.slice b1 b2 b3) (acc ++ [t1]) := Vals.app (ts := acc) (us := [t1]) HH.out (fun g e => by cases e)
       (HoldL.one (HG21.out.2.2.1.keep fun b hf => ⟨⟨Nat.le_trans HARG.out.sz hf.1, Nat.lt_trans hf.2 (gL HG21.out.2.1), fun e => by obtain ⟨xs0, hown0, _, _⟩ := HARG.out.vals; have := (hown0.lt b e).2; omega, by simp⟩, rfl⟩)) (by rw [HN1.out]; exact hown') hgrow hat
     obtain ⟨W9, hW9, hr9, hb9, hz9, hk9⟩ := setLast w' T _ _ _ _ (.slice b1 b2 b3) _ hbox'
     have hTW : W.heap.size < T := by have := HZ2.out.2; have := HZ1.out; omega
     have hI9 := hI'.below hb9 (show P < T from HZ2.out.1)
     have hO9 : On T w' W9 := ⟨hb9.os, hb9.tape, hb9.output, Nat.le_of_eq hz9.symm, fun k _ hne => hk9 k hne⟩
     have hres9 := (hk9 W.heap.size (by omega)).trans hres'
     have hON9 : On P W W9 := hON'.fresh hb9 (by omega)
     have hV9 := hV'.on hO9 HT5.out
     have hsz9 : W5.heap.size ≤ W9.heap.size := by have := hB'.size; have := HON.out.2; omega
     have HIS := Hi (is_any hI9 ⟨#[44]⟩)
     have q3 := cells_at hbox' 3 _ rfl
     have hf3 := row_frozen hbox'
     have H9 := Hi (And.intro hr9 (And.intro hres9 (And.intro hV9 (And.intro hON9 (And.intro hsz9 hTW)))))
     clear hr9 hres9 hV9 hON9 hsz9 hI9 hO9 hb9 hz9 hk9 hbox' hres' hB' hI' hON' hV' hgrow hown' hat hownT hownP hownR hown hTP
     simp only [Act.put, List.setIfInBounds_toArray, List.set_cons_succ, List.set_cons_zero]
     cases hc : seesL l m1 ⟨#[44]⟩ with
     | true =>
       rw [hc] at HEQ HIS
       have HEQ2 := Hi (show argsP (fun i => partP f l i) l k (m1 + 1) (acc ++ [t1]) = some (us, m) from HEQ.out)
       rw [if_pos rfl] at HIS
       clear hc HEQ
       go_wp2_with (go_at_call 151; refine HIS.out.mono ?_; clear HIS; rintro e W10 ⟨rfl, hO10, hI10⟩; have HI10 := Hi hI10; have HO10 := Hi hO10; clear hI10 hO10)
       go_roundg k
       case measure => omega
       case rel =>
         obtain ⟨h1, h2, h3, h4, h5, h6⟩ := H9.out
         exact ⟨acc ++ [t1], m1 + 1, .slice b1 b2 b3, ⟨by have := HARG.out.len; simp only [List.length_append, List.length_cons, List.length_nil]; omega, HEQ2.out, HI10.out, HO10.out.row h1 (by have := HZ2.out.1; omega), HO10.out.row h2 (by have := HP.out; omega), h3.on HO10.out (by have := HT5.out; have := HZ2.out.1; omega), h4.trans HO10.out, Nat.le_trans h5 HO10.out.size⟩⟩
     | false =>
       rw [hc] at HEQ HIS
       have heq := HEQ.out
       rw [if_neg Bool.false_ne_true] at heq HIS
       cases hc2 : seesL l m1 ⟨#[41]⟩ with
       | false => rw [hc2] at heq; cases heq
       | true =>
       rw [hc2] at heq
       have heq2 : some (acc ++ [t1], m1 + 1) = some (us, m) := heq
       simp only [Option.some.injEq, Prod.mk.injEq] at heq2
       obtain ⟨rfl, rfl⟩ := heq2
       have HC2 := Hi hc2
       clear hc hc2 HEQ heq
       obtain ⟨aa, cc, hvs, _, _⟩ := H9.out.2.2.1.args
       have HVS := Hi hvs
       clear hvs
       go_wp2_with (first
         | (go_at_call 151; refine HIS.out.mono ?_; clear HIS; rintro e W10 ⟨rfl, hO10, hI10⟩; have HMU := Hi (must_any hI10 ⟨#[41]⟩ HC2.out); have HO10 := Hi hO10; clear hI10 hO10)
         | (go_at_call 213; refine HMU.out.mono ?_; clear HMU; rintro e W11 ⟨rfl, hO11, hI11⟩
            have hO := HO10.out.trans hO11
            have hr11 := hO.row H9.out.1 (by have := HZ2.out.1; omega)
            have z0 := cells_at hr11 0 _ rfl
            have z1 := cells_at hr11 1 _ rfl
            have z2 := cells_at hr11 2 _ rfl
            have z3 := cells_at hr11 3 _ rfl
            have hro := hO.row H9.out.2.1 (by have := HP.out; omega)
            have o0 := cells_at hro 0 _ rfl
            have o1 := cells_at hro 1 _ rfl
            have o2 := cells_at hro 2 _ rfl
            have o3 := cells_at hro 3 _ rfl
            have hff := row_frozen hro
            obtain ⟨W12, hW12, hr12, hb12, hz12, hk12⟩ := setTerm W11 W.heap.size _ _ _ _ (.int .u8 4) (.int .i64 0) (.string s) (.slice b1 b2 b3) _ hro
            have HI11 := Hi hI11
            have HR12 := Hi hr12
            have HB12 := Hi (And.intro hb12 (And.intro hz12 hk12))
            have HO11 := Hi hO
            clear hr11 hro hI11 hr12 hb12 hz12 hk12 hO11 hO))
       refine bodyPost_ret (v := .agg #[.int .u8 4, .int .i64 0, .string s, .slice b1 b2 b3]) (by simp [results, Tryz.f214, go_sem, cells_at HR12.out 0 _ rfl, cells_at HR12.out 1 _ rfl, cells_at HR12.out 2 _ rfl, cells_at HR12.out 3 _ rfl]) rfl ?_
       obtain ⟨h1, h2, h3, h4, h5, h6⟩ := H9.out
       obtain ⟨hb12, hz12, hk12⟩ := HB12.out
       have hO12 : On W.heap.size W11 W12 := ⟨hb12.os, hb12.tape, hb12.output, Nat.le_of_eq hz12.symm, fun k _ hne => hk12 k hne⟩
       have hv12 := (h3.on HO11.out (by have := HT5.out; have := HZ2.out.1; omega)).on hO12 (by have := HT5.out; omega)
       obtain ⟨a12, c12, e12, hl12, hr12⟩ := hv12.args
       rw [e12]
       refine ⟨⟨a12, c12, rfl, ?_⟩, HI11.out.below (hb12.mono (Nat.le_refl _)) HP.out, (h4.trans HO11.out).fresh hb12 (Nat.le_refl _)⟩
       unfold IsTmIn
       refine ⟨rfl, by decide, rfl, i64_small (by decide) (by decide), rfl, HTX.out, a12, c12, rfl, hl12, fun hne => ?_⟩
       obtain ⟨b, off, e1, e2, e3⟩ := hr12 hne
       exact ⟨b, off, e1, ⟨by have := HT5.out; omega, e2.2⟩, e3.re fun k hk => ⟨by have := HT5.out; omega, hk.2⟩⟩
theorem named_step {l : List Tk} {P f : Nat} (hpt : PC l P 107 (fun i => partP f l i)) : PC l P 214 (fun i => namedP (f + 1) l i) := by
 intro n t m W h hr
 simp only [namedP] at hr
 split at hr
 case isFalse => cases hr
 rename_i hk
 split at hr
 · rename_i hs
   split at hr
   · cases hr
   · rename_i us m' ha
     cases hr
     exact named_args hpt h hk hs ha
 · rename_i hs
   cases hr
   exact named_leaf h hk (by simpa using hs)
end Go.Proofs.YtlmdhlckgbgfhaaGreatDoor
namespace Go.Proofs.YtlmdhlckgbgfhaaGreatDoor
open Go.RowKit Go.Shelf
attribute [local go_sem] Oper.semAt_some

theorem factor_num {l : List Tk} {P n : Nat} {W : World} (h : InAt l P n W) (hs1 : seesL l n ⟨#[45]⟩ = false) (hs2 : seesL l n ⟨#[40]⟩ = false) (hk0 : pk l n = 3) (hv : -2147483648 ≤ valT (pt l n) ∧ valT (pt l n) ≤ 2147483648) :
   Calls Tryz.prog 202 #[.pointer (some ⟨P, 0, none⟩)] W (PPost l P (n + 1) (.mk 1 (valT (pt l n)) ⟨#[]⟩ []) W) := by
 obtain ⟨W1, hW1, hr1, hb1, hz1⟩ := rowTerm W (.int .u8 0) (.int .i64 0) (.string ⟨#[]⟩) (.slice none 0 0)
 have hI1 := h.grow hb1
 have HH := Hi (here_any hI1)
 have HPTS := Hi (fun i => pt_size h.ok i)
 obtain ⟨s, hst⟩ : ∃ s, pt l n = s := ⟨_, rfl⟩
 obtain ⟨k, hk⟩ : ∃ k, pk l n = k := ⟨_, rfl⟩
 rw [hst, hk] at HH
 have HST := Hi hst
 have HKK := Hi hk
 have HR1 := Hi hr1
 have HB1 := Hi hb1
 have HP := Hi h.lt
 have HZ1 := Hi hz1
 have HI1 := Hi hI1
 have HS1 := Hi hs1
 have HS2 := Hi hs2
 have HK0 := Hi hk0
 obtain rfl : k = 3 := hk.symm.trans hk0
 rw [hst] at hv ⊢
 have HVV := Hi (fun (W : World) => value04_any s (by rw [← hst]; exact HPTS.out n) W)
 obtain ⟨v, hvt⟩ : ∃ v, valT s = v := ⟨_, rfl⟩
 rw [hvt] at hv HVV ⊢
 have HV := Hi hv
 clear hs1 hs2 hk0 hv hvt
 clear h hI1 hst hk hr1 hb1 hz1
 go_enter Tryz.func202, Tryz.ntmps202
 go_wp2_with (first
   | (go_at_call 178; refine HH.out.mono ?_; clear HH; rintro e W2 ⟨⟨A, rfl⟩, hB2⟩
      obtain ⟨W3, hW3, ht3, hB3⟩ := tok_row W2 3 s A
      have hI3 := (HI1.out.grow hB2).grow hB3
      have HIS := Hi (is_any hI3 ⟨#[45]⟩)
      have HO3 := Hi ((On.of_below (P := P) hB2).trans (On.of_below hB3))
      have HZ2 := Hi (And.intro (HI1.out.grow hB2).lt hB2.size)
      have HT3 := Hi ht3
      have HW3 := Hi hW3
      clear hB2 ht3 hB3 hI3 hW3)
   | (go_at_call 151; rw [HS1.out] at HIS; rw [HW3.out]; refine HIS.out.mono ?_; clear HIS HW3; rintro e W4 ⟨rfl, hO4, hI4⟩
      rw [if_neg Bool.false_ne_true] at hI4
      have HO4 := Hi (HO3.out.trans hO4)
      have HT4 := Hi (hO4.row HT3.out (by have := HZ2.out.1; omega))
      have HIS2 := Hi (is_any hI4 ⟨#[40]⟩)
      clear hO4 hI4)
   | (go_at_call 151; rw [HS2.out] at HIS2; refine HIS2.out.mono ?_; clear HIS2; rintro e W5 ⟨rfl, hO5, hI5⟩
      rw [if_neg Bool.false_ne_true] at hI5
      have HOP := Hi (HO4.out.trans hO5)
      have ht5 := hO5.row HT4.out (by have := HZ2.out.1; omega)
      have u0 := cells_at ht5 0 _ rfl
      have HKD := Hi (kind_any hI5 _ HK0.out (by decide))
      rw [HST.out] at HKD
      clear hO5 ht5)
   | (go_at_call 212; refine HKD.out.mono ?_; clear HKD; rintro e W6 ⟨rfl, hO6, hI6⟩
      have HIE := Hi hI6
      have HOE := Hi (HOP.out.trans hO6)
      clear hO6 hI6
      have hro := (HOE.out).row HR1.out (by have := HP.out; omega)
      have o0 := cells_at hro 0 _ rfl
      have o1 := cells_at hro 1 _ rfl
      have o2 := cells_at hro 2 _ rfl
      have o3 := cells_at hro 3 _ rfl
      have hff := row_frozen hro
      obtain ⟨W9, hW9, hr9, hb9, hz9, hk9⟩ := setTerm W6 W.heap.size _ _ _ _ (.int .u8 1) (.int .i64 v) (.string ⟨#[]⟩) (.slice none 0 0) _ hro
      have HR9 := Hi hr9
      have HB9 := Hi (And.intro hb9 (And.intro hz9 hk9))
      clear hro hr9 hb9 hz9 hk9)
   | (go_at_call 211; refine (HVV.out _).mono ?_; clear HVV; rintro e W7 ⟨rfl, rfl⟩))
 refine bodyPost_ret (v := .agg #[.int .u8 1, .int .i64 v, .string ⟨#[]⟩, .slice none 0 0]) (by simp [results, Tryz.f202, go_sem, cells_at HR9.out 0 _ rfl, cells_at HR9.out 1 _ rfl, cells_at HR9.out 2 _ rfl, cells_at HR9.out 3 _ rfl]) rfl ?_
 obtain ⟨hb9, hz9, hk9⟩ := HB9.out
 refine ⟨⟨none, 0, rfl, ?_⟩, HIE.out.below (hb9.mono (Nat.le_refl _)) HP.out, ((On.of_below HB1.out).trans HOE.out).fresh hb9 (Nat.le_refl _)⟩
 unfold IsTmIn
 exact ⟨rfl, by decide, rfl, i64_small HV.out.1 HV.out.2, rfl, show (0 : Nat) ≤ maxLen from Nat.zero_le _, none, 0, rfl, Nat.zero_le _, fun e => absurd rfl e⟩
theorem factor_var {l : List Tk} {P n : Nat} {W : World} (h : InAt l P n W) (hs1 : seesL l n ⟨#[45]⟩ = false) (hs2 : seesL l n ⟨#[40]⟩ = false) (hk0 : pk l n = 2) :
   Calls Tryz.prog 202 #[.pointer (some ⟨P, 0, none⟩)] W (PPost l P (n + 1) (.mk 3 0 (pt l n) []) W) := by
 obtain ⟨W1, hW1, hr1, hb1, hz1⟩ := rowTerm W (.int .u8 0) (.int .i64 0) (.string ⟨#[]⟩) (.slice none 0 0)
 have hI1 := h.grow hb1
 have HH := Hi (here_any hI1)
 have HPTS := Hi (fun i => pt_size h.ok i)
 obtain ⟨s, hst⟩ : ∃ s, pt l n = s := ⟨_, rfl⟩
 obtain ⟨k, hk⟩ : ∃ k, pk l n = k := ⟨_, rfl⟩
 rw [hst, hk] at HH
 have HST := Hi hst
 have HKK := Hi hk
 have HR1 := Hi hr1
 have HB1 := Hi hb1
 have HP := Hi h.lt
 have HZ1 := Hi hz1
 have HI1 := Hi hI1
 have HS1 := Hi hs1
 have HS2 := Hi hs2
 have HK0 := Hi hk0
 obtain rfl : k = 2 := hk.symm.trans hk0
 rw [hst] at ⊢
 have HSZ : Hid (s.size ≤ maxLen) := Hi (by rw [← hst]; exact HPTS.out n)
 clear hs1 hs2 hk0
 clear h hI1 hst hk hr1 hb1 hz1
 go_enter Tryz.func202, Tryz.ntmps202
 go_wp2_with (first
   | (go_at_call 178; refine HH.out.mono ?_; clear HH; rintro e W2 ⟨⟨A, rfl⟩, hB2⟩
      obtain ⟨W3, hW3, ht3, hB3⟩ := tok_row W2 2 s A
      have hI3 := (HI1.out.grow hB2).grow hB3
      have HIS := Hi (is_any hI3 ⟨#[45]⟩)
      have HO3 := Hi ((On.of_below (P := P) hB2).trans (On.of_below hB3))
      have HZ2 := Hi (And.intro (HI1.out.grow hB2).lt hB2.size)
      have HT3 := Hi ht3
      have HW3 := Hi hW3
      clear hB2 ht3 hB3 hI3 hW3)
   | (go_at_call 151; rw [HS1.out] at HIS; rw [HW3.out]; refine HIS.out.mono ?_; clear HIS HW3; rintro e W4 ⟨rfl, hO4, hI4⟩
      rw [if_neg Bool.false_ne_true] at hI4
      have HO4 := Hi (HO3.out.trans hO4)
      have HT4 := Hi (hO4.row HT3.out (by have := HZ2.out.1; omega))
      have HIS2 := Hi (is_any hI4 ⟨#[40]⟩)
      clear hO4 hI4)
   | (go_at_call 151; rw [HS2.out] at HIS2; refine HIS2.out.mono ?_; clear HIS2; rintro e W5 ⟨rfl, hO5, hI5⟩
      rw [if_neg Bool.false_ne_true] at hI5
      have HOP := Hi (HO4.out.trans hO5)
      have ht5 := hO5.row HT4.out (by have := HZ2.out.1; omega)
      have u0 := cells_at ht5 0 _ rfl
      have HKD := Hi (kind_any hI5 _ HK0.out (by decide))
      rw [HST.out] at HKD
      clear hO5 ht5)
   | (go_at_call 212; refine HKD.out.mono ?_; clear HKD; rintro e W6 ⟨rfl, hO6, hI6⟩
      have HIE := Hi hI6
      have HOE := Hi (HOP.out.trans hO6)
      clear hO6 hI6
      have hro := (HOE.out).row HR1.out (by have := HP.out; omega)
      have o0 := cells_at hro 0 _ rfl
      have o1 := cells_at hro 1 _ rfl
      have o2 := cells_at hro 2 _ rfl
      have o3 := cells_at hro 3 _ rfl
      have hff := row_frozen hro
      obtain ⟨W9, hW9, hr9, hb9, hz9, hk9⟩ := setTerm W6 W.heap.size _ _ _ _ (.int .u8 3) (.int .i64 0) (.string s) (.slice none 0 0) _ hro
      have HR9 := Hi hr9
      have HB9 := Hi (And.intro hb9 (And.intro hz9 hk9))
      clear hro hr9 hb9 hz9 hk9))
 refine bodyPost_ret (v := .agg #[.int .u8 3, .int .i64 0, .string s, .slice none 0 0]) (by simp [results, Tryz.f202, go_sem, cells_at HR9.out 0 _ rfl, cells_at HR9.out 1 _ rfl, cells_at HR9.out 2 _ rfl, cells_at HR9.out 3 _ rfl]) rfl ?_
 obtain ⟨hb9, hz9, hk9⟩ := HB9.out
 refine ⟨⟨none, 0, rfl, ?_⟩, HIE.out.below (hb9.mono (Nat.le_refl _)) HP.out, ((On.of_below HB1.out).trans HOE.out).fresh hb9 (Nat.le_refl _)⟩
 unfold IsTmIn
 exact ⟨rfl, by decide, rfl, i64_small (by decide) (by decide), rfl, HSZ.out, none, 0, rfl, Nat.zero_le _, fun e => absurd rfl e⟩
theorem factor_neg {l : List Tk} {P n : Nat} {W : World} (h : InAt l P n W) (hs1 : seesL l n ⟨#[45]⟩ = true) (hk2 : pk l (n + 1) = 3) (hv : -2147483648 ≤ valT (pt l (n + 1)) ∧ valT (pt l (n + 1)) ≤ 2147483648) :
   Calls Tryz.prog 202 #[.pointer (some ⟨P, 0, none⟩)] W (PPost l P (n + 2) (.mk 1 (-(valT (pt l (n + 1)))) ⟨#[]⟩ []) W) := by
 obtain ⟨W1, hW1, hr1, hb1, hz1⟩ := rowTerm W (.int .u8 0) (.int .i64 0) (.string ⟨#[]⟩) (.slice none 0 0)
 have hI1 := h.grow hb1
 have HH := Hi (here_any hI1)
 have HPTS := Hi (fun i => pt_size h.ok i)
 obtain ⟨s, hst⟩ : ∃ s, pt l n = s := ⟨_, rfl⟩
 obtain ⟨k, hk⟩ : ∃ k, pk l n = k := ⟨_, rfl⟩
 rw [hst, hk] at HH
 have HST := Hi hst
 have HKK := Hi hk
 have HR1 := Hi hr1
 have HB1 := Hi hb1
 have HP := Hi h.lt
 have HZ1 := Hi hz1
 have HI1 := Hi hI1
 have HS1 := Hi hs1
 have HK2 := Hi hk2
 obtain ⟨s2, hst2⟩ : ∃ s2, pt l (n + 1) = s2 := ⟨_, rfl⟩
 rw [hst2] at hv ⊢
 have HST2 := Hi hst2
 have HVV := Hi (fun (W : World) => value04_any s2 (by rw [← hst2]; exact HPTS.out (n + 1)) W)
 obtain ⟨v, hvt⟩ : ∃ v, valT s2 = v := ⟨_, rfl⟩
 rw [hvt] at hv HVV ⊢
 have HV := Hi hv
 have hfd := tok_field0
 have hneg : IntKind.i64.wrap (-v) = -v := IntWalk.i64_in _ (by omega)
 clear hs1 hk2 hv hvt hst2
 clear h hI1 hst hk hr1 hb1 hz1
 go_enter Tryz.func202, Tryz.ntmps202
 go_wp2_with (first
   | (go_at_call 178; refine HH2.out.mono ?_; clear HH2; rintro e W5 ⟨⟨A2, rfl⟩, hB5⟩
      have hI5 := HI4.out.grow hB5
      have HOP := Hi (HO4.out.trans (On.of_below hB5))
      have HKD := Hi (kind_any hI5 3 HK2.out (by decide))
      rw [HST2.out] at HKD
      clear hB5 hI5)
   | (go_at_call 178; refine HH.out.mono ?_; clear HH; rintro e W2 ⟨⟨A, rfl⟩, hB2⟩
      obtain ⟨W3, hW3, ht3, hB3⟩ := tok_row W2 k s A
      have hI3 := (HI1.out.grow hB2).grow hB3
      have HIS := Hi (is_any hI3 ⟨#[45]⟩)
      have HO3 := Hi ((On.of_below (P := P) hB2).trans (On.of_below hB3))
      have HZ2 := Hi (And.intro (HI1.out.grow hB2).lt hB2.size)
      have HT3 := Hi ht3
      have HW3 := Hi hW3
      clear hB2 ht3 hB3 hI3 hW3)
   | (go_at_call 151; rw [HS1.out] at HIS; rw [HW3.out]; refine HIS.out.mono ?_; clear HIS HW3; rintro e W4 ⟨rfl, hO4, hI4⟩
      rw [if_pos rfl] at hI4
      have HO4 := Hi (HO3.out.trans hO4)
      have HT4 := Hi (hO4.row HT3.out (by have := HZ2.out.1; omega))
      have HI4 := Hi hI4
      have HH2 := here_any hI4
      rw [HK2.out] at HH2
      have HH2 := Hi HH2
      clear hO4 hI4)
   | (go_at_call 212; refine HKD.out.mono ?_; clear HKD; rintro e W6 ⟨rfl, hO6, hI6⟩
      have HIE := Hi hI6
      have HOE := Hi (HOP.out.trans hO6)
      clear hO6 hI6
      have hro := (HOE.out).row HR1.out (by have := HP.out; omega)
      have o0 := cells_at hro 0 _ rfl
      have o1 := cells_at hro 1 _ rfl
      have o2 := cells_at hro 2 _ rfl
      have o3 := cells_at hro 3 _ rfl
      have hff := row_frozen hro
      obtain ⟨W9, hW9, hr9, hb9, hz9, hk9⟩ := setTerm W6 W.heap.size _ _ _ _ (.int .u8 1) (.int .i64 (-v)) (.string ⟨#[]⟩) (.slice none 0 0) _ hro
      have HR9 := Hi hr9
      have HB9 := Hi (And.intro hb9 (And.intro hz9 hk9))
      clear hro hr9 hb9 hz9 hk9)
   | (go_at_call 211; refine (HVV.out _).mono ?_; clear HVV; rintro e W7 ⟨rfl, rfl⟩))
 refine bodyPost_ret (v := .agg #[.int .u8 1, .int .i64 (-v), .string ⟨#[]⟩, .slice none 0 0]) (by simp [results, Tryz.f202, go_sem, cells_at HR9.out 0 _ rfl, cells_at HR9.out 1 _ rfl, cells_at HR9.out 2 _ rfl, cells_at HR9.out 3 _ rfl]) rfl ?_
 obtain ⟨hb9, hz9, hk9⟩ := HB9.out
 refine ⟨⟨none, 0, rfl, ?_⟩, HIE.out.below (hb9.mono (Nat.le_refl _)) HP.out, ((On.of_below HB1.out).trans HOE.out).fresh hb9 (Nat.le_refl _)⟩
 unfold IsTmIn
 exact ⟨rfl, by decide, rfl, i64_small (by have := HV.out; omega) (by have := HV.out; omega), rfl, show (0 : Nat) ≤ maxLen from Nat.zero_le _, none, 0, rfl, Nat.zero_le _, fun e => absurd rfl e⟩
theorem factor_minus {l : List Tk} {P n : Nat} {W : World} (h : InAt l P n W) {f m : Nat} {u : Tm} (hf : PC l P 202 (fun i => factorP f l i)) (hs1 : seesL l n ⟨#[45]⟩ = true) (hk2 : pk l (n + 1) ≠ 3) (hft : factorP f l (n + 1) = some (u, m)) :
   Calls Tryz.prog 202 #[.pointer (some ⟨P, 0, none⟩)] W (PPost l P m (opT ⟨#[45]⟩ [u]) W) := by
 obtain ⟨W1, hW1, hr1, hb1, hz1⟩ := rowTerm W (.int .u8 0) (.int .i64 0) (.string ⟨#[]⟩) (.slice none 0 0)
 have hI1 := h.grow hb1
 have HH := Hi (here_any hI1)
 have HPTS := Hi (fun i => pt_size h.ok i)
 obtain ⟨s, hst⟩ : ∃ s, pt l n = s := ⟨_, rfl⟩
 obtain ⟨k, hk⟩ : ∃ k, pk l n = k := ⟨_, rfl⟩
 rw [hst, hk] at HH
 have HST := Hi hst
 have HKK := Hi hk
 have HR1 := Hi hr1
 have HB1 := Hi hb1
 have HP := Hi h.lt
 have HZ1 := Hi hz1
 have HI1 := Hi hI1
 have HS1 := Hi hs1
 have HF := Hi hf
 have HFT := Hi hft
 obtain ⟨k2, hkk2⟩ : ∃ k2, pk l (n + 1) = k2 := ⟨_, rfl⟩
 rw [hkk2] at hk2
 have HK2 := Hi hkk2
 have hk3 : (k2 == 3) = false := by simpa using hk2
 have hfd := tok_field0
 clear hf hs1 hft hkk2
 clear h hI1 hst hk hr1 hb1 hz1
 go_enter Tryz.func202, Tryz.ntmps202
 go_wp2_with (first
   | (go_at_call 178; refine HH2.out.mono ?_; clear HH2; rintro e W5 ⟨⟨A2, rfl⟩, hB5⟩
      have hI5 := HI4.out.grow hB5
      have HOP := Hi (HO4.out.trans (On.of_below hB5))
      obtain ⟨_, _, _, _, _, _, p8, _⟩ := hI5.cells
      have HFC := Hi (HF.out _ _ _ W5 hI5 HFT.out)
      have HZ5 := Hi (And.intro hI5.lt (Nat.le_trans (Nat.le_of_eq HZ1.out.symm) HOP.out.size))
      clear hB5 hI5)
   | (go_at_call 178; refine HH.out.mono ?_; clear HH; rintro e W2 ⟨⟨A, rfl⟩, hB2⟩
      obtain ⟨W3, hW3, ht3, hB3⟩ := tok_row W2 k s A
      have hI3 := (HI1.out.grow hB2).grow hB3
      have HIS := Hi (is_any hI3 ⟨#[45]⟩)
      have HO3 := Hi ((On.of_below (P := P) hB2).trans (On.of_below hB3))
      have HZ2 := Hi (And.intro (HI1.out.grow hB2).lt hB2.size)
      have HT3 := Hi ht3
      have HW3 := Hi hW3
      clear hB2 ht3 hB3 hI3 hW3)
   | (go_at_call 151; rw [HS1.out] at HIS; rw [HW3.out]; refine HIS.out.mono ?_; clear HIS HW3; rintro e W4 ⟨rfl, hO4, hI4⟩
      rw [if_pos rfl] at hI4
      have HO4 := Hi (HO3.out.trans hO4)
      have HT4 := Hi (hO4.row HT3.out (by have := HZ2.out.1; omega))
      have HI4 := Hi hI4
      have HH2 := here_any hI4
      rw [HK2.out] at HH2
      have HH2 := Hi HH2
      clear hO4 hI4)
   | (go_at_call 202; refine HFC.out.mono ?_; clear HFC; rintro e W6 ⟨⟨a6, c6, rfl, ht6⟩, hI6, hO6⟩
      obtain ⟨W7, hW7, hr7, hb7, hz7⟩ := rowTerm W6 (.int .u8 u.kind) (.int .i64 u.num) (.string u.name) (.slice a6 u.args.length c6)
      have HI7 := Hi (hI6.grow hb7)
      have HO7 := Hi ((HOP.out.trans hO6).trans (On.of_below hb7))
      have HR7 := Hi hr7
      have HZ6 := Hi hO6.size
      have HT7 := Hi (show IsTmIn (fun b => W5.heap.size ≤ b ∧ b < W7.heap.size ∧ b ≠ W6.heap.size) W7 _ _ _ _ u from ht6.keep fun b hf => ⟨⟨hf.1, by omega, by omega⟩, hb7.block b hf.2⟩)
      have HW7 := Hi hW7
      clear ht6 hI6 hO6 hr7 hb7 hz7 hW7)
   | (go_at_call 179; rw [HW7.out]; refine (opnew_any ⟨#[45]⟩ _ _ _ W7).mono ?_; rintro e W8 ⟨rfl, hB8⟩
      have HIE := Hi (HI7.out.grow hB8)
      have HOE := Hi (HO7.out.trans (On.of_below hB8))
      have HV8 := Hi ((Vals.one HZ6.out HR7.out HT7.out).grow hB8)
      clear hB8
      have hro := (HOE.out).row HR1.out (by have := HP.out; omega)
      have o0 := cells_at hro 0 _ rfl
      have o1 := cells_at hro 1 _ rfl
      have o2 := cells_at hro 2 _ rfl
      have o3 := cells_at hro 3 _ rfl
      have hff := row_frozen hro
      obtain ⟨W9, hW9, hr9, hb9, hz9, hk9⟩ := setTerm W8 W.heap.size _ _ _ _ (.int .u8 5) (.int .i64 0) (.string ⟨#[45]⟩) (.slice (some ⟨W6.heap.size, 0, none⟩) 1 1) _ hro
      have HR9 := Hi hr9
      have HB9 := Hi (And.intro hb9 (And.intro hz9 hk9))
      clear hro hr9 hb9 hz9 hk9))
 refine bodyPost_ret (v := .agg #[.int .u8 5, .int .i64 0, .string ⟨#[45]⟩, .slice (some ⟨W6.heap.size, 0, none⟩) 1 1]) (by simp [results, Tryz.f202, go_sem, cells_at HR9.out 0 _ rfl, cells_at HR9.out 1 _ rfl, cells_at HR9.out 2 _ rfl, cells_at HR9.out 3 _ rfl]) rfl ?_
 obtain ⟨hb9, hz9, hk9⟩ := HB9.out
 have hO9 : On W.heap.size W8 W9 := ⟨hb9.os, hb9.tape, hb9.output, Nat.le_of_eq hz9.symm, fun k _ hne => hk9 k hne⟩
 obtain ⟨a, cap, ee, hT⟩ := (HV8.out.on hO9 (by have := HZ5.out.2; omega)).term (lo := W.heap.size) (k := 5) (s := ⟨#[45]⟩) (by have := HZ5.out.2; omega) (by decide) (by unfold maxLen; decide)
 rw [ee]
 exact ⟨⟨a, cap, rfl, hT⟩, HIE.out.below (hb9.mono (Nat.le_refl _)) HP.out, ((On.of_below HB1.out).trans HOE.out).fresh hb9 (Nat.le_refl _)⟩
theorem factor_paren {l : List Tk} {P n : Nat} {W : World} (h : InAt l P n W) {f m : Nat} {u : Tm} (hf : PC l P 107 (fun i => partP f l i)) (hs1 : seesL l n ⟨#[45]⟩ = false) (hs2 : seesL l n ⟨#[40]⟩ = true) (hft : partP f l (n + 1) = some (u, m)) (hs3 : seesL l m ⟨#[41]⟩ = true) :
   Calls Tryz.prog 202 #[.pointer (some ⟨P, 0, none⟩)] W (PPost l P (m + 1) u W) := by
 obtain ⟨W1, hW1, hr1, hb1, hz1⟩ := rowTerm W (.int .u8 0) (.int .i64 0) (.string ⟨#[]⟩) (.slice none 0 0)
 have hI1 := h.grow hb1
 have HH := Hi (here_any hI1)
 have HPTS := Hi (fun i => pt_size h.ok i)
 obtain ⟨s, hst⟩ : ∃ s, pt l n = s := ⟨_, rfl⟩
 obtain ⟨k, hk⟩ : ∃ k, pk l n = k := ⟨_, rfl⟩
 rw [hst, hk] at HH
 have HST := Hi hst
 have HKK := Hi hk
 have HR1 := Hi hr1
 have HB1 := Hi hb1
 have HP := Hi h.lt
 have HZ1 := Hi hz1
 have HI1 := Hi hI1
 have HS1 := Hi hs1
 have HS2 := Hi hs2
 have HS3 := Hi hs3
 have HF := Hi hf
 have HFT := Hi hft
 clear hf hs1 hs2 hs3 hft
 clear h hI1 hst hk hr1 hb1 hz1
 go_enter Tryz.func202, Tryz.ntmps202
 go_wp2_with (first
   | (go_at_call 178; refine HH.out.mono ?_; clear HH; rintro e W2 ⟨⟨A, rfl⟩, hB2⟩
      obtain ⟨W3, hW3, ht3, hB3⟩ := tok_row W2 k s A
      have hI3 := (HI1.out.grow hB2).grow hB3
      have HIS := Hi (is_any hI3 ⟨#[45]⟩)
      have HO3 := Hi ((On.of_below (P := P) hB2).trans (On.of_below hB3))
      have HZ2 := Hi (And.intro (HI1.out.grow hB2).lt hB2.size)
      have HT3 := Hi ht3
      have HW3 := Hi hW3
      clear hB2 ht3 hB3 hI3 hW3)
   | (go_at_call 151; rw [HS1.out] at HIS; rw [HW3.out]; refine HIS.out.mono ?_; clear HIS HW3; rintro e W4 ⟨rfl, hO4, hI4⟩
      rw [if_neg Bool.false_ne_true] at hI4
      have HO4 := Hi (HO3.out.trans hO4)
      have HT4 := Hi (hO4.row HT3.out (by have := HZ2.out.1; omega))
      have HIS2 := Hi (is_any hI4 ⟨#[40]⟩)
      clear hO4 hI4)
   | (go_at_call 151; rw [HS2.out] at HIS2; refine HIS2.out.mono ?_; clear HIS2; rintro e W5 ⟨rfl, hO5, hI5⟩
      rw [if_pos rfl] at hI5
      have HOP := Hi (HO4.out.trans hO5)
      have HPT := Hi (HF.out _ _ _ W5 hI5 HFT.out)
      have HZ5 := Hi (And.intro hI5.lt (Nat.le_trans (Nat.le_of_eq HZ1.out.symm) (HO4.out.trans hO5).size))
      clear hO5 hI5)
   | (go_at_call 107; refine HPT.out.mono ?_; clear HPT; rintro e W6 ⟨⟨a6, c6, rfl, ht6⟩, hI6, hO6⟩
      obtain ⟨W7, hW7, hr7, hb7, hz7⟩ := rowTerm W6 (.int .u8 u.kind) (.int .i64 u.num) (.string u.name) (.slice a6 u.args.length c6)
      have HMU := Hi (must_any (hI6.grow hb7) ⟨#[41]⟩ HS3.out)
      have HO7 := Hi ((HOP.out.trans hO6).trans (On.of_below hb7))
      have HR7 := Hi hr7
      have HZ6 := Hi (And.intro hI6.lt hO6.size)
      have HT7 := Hi (show IsTmIn (fun b => W5.heap.size ≤ b ∧ b < W7.heap.size) W7 _ _ _ _ u from ht6.keep fun b hf => ⟨⟨hf.1, by omega⟩, hb7.block b hf.2⟩)
      have HW7 := Hi hW7
      clear ht6 hI6 hO6 hr7 hb7 hz7 hW7)
   | (go_at_call 213; rw [HW7.out]; refine HMU.out.mono ?_; clear HMU; rintro e W8 ⟨rfl, hO8, hI8⟩
      have hr8 := hO8.row HR7.out (by have := HZ6.out.1; omega)
      have u0 := cells_at hr8 0 _ rfl
      have u1 := cells_at hr8 1 _ rfl
      have u2 := cells_at hr8 2 _ rfl
      have u3 := cells_at hr8 3 _ rfl
      have HIE := Hi hI8
      have HOE := Hi (HO7.out.trans hO8)
      have HT8 := Hi (show IsTmIn (fun b => W5.heap.size ≤ b ∧ b < W8.heap.size) W8 _ _ _ _ u from HT7.out.keep fun b hf => ⟨⟨hf.1, Nat.lt_of_lt_of_le hf.2 hO8.size⟩, hO8.block b hf.2 (by have := HZ5.out.1; omega)⟩)
      clear hr8 hO8 hI8
      have hro := (HOE.out).row HR1.out (by have := HP.out; omega)
      have o0 := cells_at hro 0 _ rfl
      have o1 := cells_at hro 1 _ rfl
      have o2 := cells_at hro 2 _ rfl
      have o3 := cells_at hro 3 _ rfl
      have hff := row_frozen hro
      obtain ⟨W9, hW9, hr9, hb9, hz9, hk9⟩ := setTerm W8 W.heap.size _ _ _ _ (.int .u8 u.kind) (.int .i64 u.num) (.string u.name) (.slice a6 u.args.length c6) _ hro
      have HR9 := Hi hr9
      have HB9 := Hi (And.intro hb9 (And.intro hz9 hk9))
      clear hro hr9 hb9 hz9 hk9))
 refine bodyPost_ret (v := .agg #[.int .u8 u.kind, .int .i64 u.num, .string u.name, .slice a6 u.args.length c6]) (by simp [results, Tryz.f202, go_sem, cells_at HR9.out 0 _ rfl, cells_at HR9.out 1 _ rfl, cells_at HR9.out 2 _ rfl, cells_at HR9.out 3 _ rfl]) rfl ?_
 obtain ⟨hb9, hz9, hk9⟩ := HB9.out
 refine ⟨⟨_, _, rfl, HT8.out.keep fun b hf => ⟨⟨by have := HZ5.out.2; omega, by rw [hz9]; exact hf.2⟩, hk9 b (by have := HZ5.out.2; have := hf.1; omega)⟩⟩, HIE.out.below (hb9.mono (Nat.le_refl _)) HP.out, ((On.of_below HB1.out).trans HOE.out).fresh hb9 (Nat.le_refl _)⟩
theorem factor_named {l : List Tk} {P n : Nat} {W : World} (h : InAt l P n W) {f m : Nat} {u : Tm} (hf : PC l P 214 (fun i => namedP f l i)) (hs1 : seesL l n ⟨#[45]⟩ = false) (hs2 : seesL l n ⟨#[40]⟩ = false) (hk3 : pk l n ≠ 3) (hk2 : pk l n ≠ 2) (hft : namedP f l n = some (u, m)) :
   Calls Tryz.prog 202 #[.pointer (some ⟨P, 0, none⟩)] W (PPost l P m u W) := by
 obtain ⟨W1, hW1, hr1, hb1, hz1⟩ := rowTerm W (.int .u8 0) (.int .i64 0) (.string ⟨#[]⟩) (.slice none 0 0)
 have hI1 := h.grow hb1
 have HH := Hi (here_any hI1)
 have HPTS := Hi (fun i => pt_size h.ok i)
 obtain ⟨s, hst⟩ : ∃ s, pt l n = s := ⟨_, rfl⟩
 obtain ⟨k, hk⟩ : ∃ k, pk l n = k := ⟨_, rfl⟩
 rw [hst, hk] at HH
 have HST := Hi hst
 have HKK := Hi hk
 have HR1 := Hi hr1
 have HB1 := Hi hb1
 have HP := Hi h.lt
 have HZ1 := Hi hz1
 have HI1 := Hi hI1
 have HS1 := Hi hs1
 have HS2 := Hi hs2
 have HF := Hi hf
 have HFT := Hi hft
 rw [hk] at hk3 hk2
 have hk3b : (k == 3) = false := by simpa using hk3
 have hk2b : (k == 2) = false := by simpa using hk2
 clear hf hs1 hs2 hft
 clear h hI1 hst hk hr1 hb1 hz1
 go_enter Tryz.func202, Tryz.ntmps202
 go_wp2_with (first
   | (go_at_call 178; refine HH.out.mono ?_; clear HH; rintro e W2 ⟨⟨A, rfl⟩, hB2⟩
      obtain ⟨W3, hW3, ht3, hB3⟩ := tok_row W2 k s A
      have hI3 := (HI1.out.grow hB2).grow hB3
      have HIS := Hi (is_any hI3 ⟨#[45]⟩)
      have HO3 := Hi ((On.of_below (P := P) hB2).trans (On.of_below hB3))
      have HZ2 := Hi (And.intro (HI1.out.grow hB2).lt hB2.size)
      have HT3 := Hi ht3
      have HW3 := Hi hW3
      clear hB2 ht3 hB3 hI3 hW3)
   | (go_at_call 151; rw [HS1.out] at HIS; rw [HW3.out]; refine HIS.out.mono ?_; clear HIS HW3; rintro e W4 ⟨rfl, hO4, hI4⟩
      rw [if_neg Bool.false_ne_true] at hI4
      have HO4 := Hi (HO3.out.trans hO4)
      have HT4 := Hi (hO4.row HT3.out (by have := HZ2.out.1; omega))
      have HIS2 := Hi (is_any hI4 ⟨#[40]⟩)
      clear hO4 hI4)
   | (go_at_call 151; rw [HS2.out] at HIS2; refine HIS2.out.mono ?_; clear HIS2; rintro e W5 ⟨rfl, hO5, hI5⟩
      rw [if_neg Bool.false_ne_true] at hI5
      have HOP := Hi (HO4.out.trans hO5)
      have ht5 := hO5.row HT4.out (by have := HZ2.out.1; omega)
      have u0 := cells_at ht5 0 _ rfl
      have HPT := Hi (HF.out _ _ _ W5 hI5 HFT.out)
      have HZ5 := Hi (And.intro hI5.lt (Nat.le_trans (Nat.le_of_eq HZ1.out.symm) (HO4.out.trans hO5).size))
      clear hO5 hI5 ht5)
   | (go_at_call 214; refine HPT.out.mono ?_; clear HPT; rintro e W8 ⟨⟨a6, c6, rfl, ht6⟩, hI6, hO6⟩
      have HIE := Hi hI6
      have HOE := Hi (HOP.out.trans hO6)
      have HT8 := Hi ht6
      clear ht6 hI6 hO6
      have hro := (HOE.out).row HR1.out (by have := HP.out; omega)
      have o0 := cells_at hro 0 _ rfl
      have o1 := cells_at hro 1 _ rfl
      have o2 := cells_at hro 2 _ rfl
      have o3 := cells_at hro 3 _ rfl
      have hff := row_frozen hro
      obtain ⟨W9, hW9, hr9, hb9, hz9, hk9⟩ := setTerm W8 W.heap.size _ _ _ _ (.int .u8 u.kind) (.int .i64 u.num) (.string u.name) (.slice a6 u.args.length c6) _ hro
      have HR9 := Hi hr9
      have HB9 := Hi (And.intro hb9 (And.intro hz9 hk9))
      clear hro hr9 hb9 hz9 hk9))
 refine bodyPost_ret (v := .agg #[.int .u8 u.kind, .int .i64 u.num, .string u.name, .slice a6 u.args.length c6]) (by simp [results, Tryz.f202, go_sem, cells_at HR9.out 0 _ rfl, cells_at HR9.out 1 _ rfl, cells_at HR9.out 2 _ rfl, cells_at HR9.out 3 _ rfl]) rfl ?_
 obtain ⟨hb9, hz9, hk9⟩ := HB9.out
 refine ⟨⟨_, _, rfl, HT8.out.keep fun b hf => ⟨⟨by have := HZ5.out.2; omega, by rw [hz9]; exact hf.2⟩, hk9 b (by have := HZ5.out.2; have := hf.1; omega)⟩⟩, HIE.out.below (hb9.mono (Nat.le_refl _)) HP.out, ((On.of_below HB1.out).trans HOE.out).fresh hb9 (Nat.le_refl _)⟩

theorem factor_step {l : List Tk} {P f : Nat} (hf : PC l P 202 (fun i => factorP f l i)) (hp : PC l P 107 (fun i => partP f l i)) (hn : PC l P 214 (fun i => namedP f l i)) : PC l P 202 (fun i => factorP (f + 1) l i) := by
 intro n t m W h hr
 simp only [factorP] at hr
 split at hr
 · rename_i hs1
   split at hr
   · rename_i hk
     split at hr
     · rename_i hv
       cases hr
       exact factor_neg h hs1 hk hv
     · cases hr
   · rename_i hk
     split at hr
     · cases hr
     · rename_i u m' hft
       cases hr
       exact factor_minus h hf hs1 hk hft
 · rename_i hs1
   have hs1 : seesL l n ⟨#[45]⟩ = false := by simpa using hs1
   split at hr
   · rename_i hs2
     split at hr
     · cases hr
     · rename_i x m' hft
       split at hr
       · rename_i hs3
         cases hr
         exact factor_paren h hp hs1 hs2 hft hs3
       · cases hr
   · rename_i hs2
     have hs2 : seesL l n ⟨#[40]⟩ = false := by simpa using hs2
     split at hr
     · rename_i hk
       split at hr
       · rename_i hv
         cases hr
         exact factor_num h hs1 hs2 hk hv
       · cases hr
     · rename_i hk3
       split at hr
       · rename_i hk2
         cases hr
         exact factor_var h hs1 hs2 hk2
       · rename_i hk2
         exact factor_named h hn hs1 hs2 hk3 hk2 hr
end Go.Proofs.YtlmdhlckgbgfhaaGreatDoor
