/- The reference model of lex: Lex. -/
import Derived.Test.YtlmdhlckgbgfhaaGreatDoorZa
import Derived.Maps.AppendAt
set_option maxRecDepth 100000
set_option maxHeartbeats 400000000
namespace Go.Proofs.YtlmdhlckgbgfhaaGreatDoor
open Go.RowKit

def TokR (T : Nat) (k : Int) (t : ByteArray) (a : Nat) (W : World) : Prop := W.heap[T]? = some (.cells #[.int .i64 k, .string t, .int .i64 a] 153 (0, 0))
theorem TokR.lt {T : Nat} {k : Int} {t : ByteArray} {a : Nat} {W : World} (h : TokR T k t a W) : T < W.heap.size := (gL h)
theorem TokR.f {T : Nat} {k : Int} {t : ByteArray} {a : Nat} {W : World} (h : TokR T k t a W) (o : Nat) : W.frozen? ⟨T, o, none⟩ = false := by
 have h' : W.heap[T]? = _ := h
 simp [World.frozen?, h']
theorem TokR.kind {T : Nat} {k : Int} {t : ByteArray} {a : Nat} {W : World} (h : TokR T k t a W) (k' : Int) : TokR T k' t a (W.setCell ⟨T, 0, none⟩ (.int .i64 k')) := by
 unfold TokR at *
 simp [World.setCell, Array.getElem?_modify, h]
theorem TokR.text {T : Nat} {k : Int} {t : ByteArray} {a : Nat} {W : World} (h : TokR T k t a W) (t' : ByteArray) : TokR T k t' a (W.setCell ⟨T, 1, none⟩ (.string t')) := by
 unfold TokR at *
 simp [World.setCell, Array.getElem?_modify, h]
theorem TokR.drew {T : Nat} {k : Int} {t : ByteArray} {a : Nat} {W : World} (h : TokR T k t a W) (n : Nat) : TokR T k t a (W.drewN n) := h

theorem infoR : (Tryz.prog.info? 153).map (fun i => (i.zero, i.size, i.bytes)) = some (some (.agg #[.int .i64 0, .string ⟨#[]⟩, .int .i64 0]), 3, 32) := by kernel_rfl

def RPost (s : ByteArray) (w : World) (e : Ending) (w' : World) : Prop :=
 Below w.heap.size w w' ∧ match lexErr s with
   | none => ∃ v, e = .returned (.tuple #[v, .int .i64 0, .int .i64 0]) ∧ w'.ownsRow w.heap.size 153 3 v (lexAll s).length (cellsR (lexAll s))
   | some x => e = .returned (.tuple #[.slice none 0 0, .int .i64 x.a, .int .i64 x.e])

structure RInv (s : ByteArray) (w : World) (acc : List Tk) (a : Nat) (out : Value) (W : World) : Prop where
 le : a ≤ s.size
 eq : lexAll s = acc ++ lexR s a
 ok : ∀ x ∈ acc, x.e = 0
 row : W.ownsRow w.heap.size 153 3 out acc.length (cellsR acc)
 below : Below w.heap.size w W
theorem RInv.drew {s : ByteArray} {w : World} {acc : List Tk} {a : Nat} {out : Value} {W : World} (h : RInv s w acc a out W) (n : Nat) : RInv s w acc a out (W.drewN n) :=
 ⟨h.le, h.eq, h.ok, h.row, h.below.trans ⟨rfl, rfl, rfl, Nat.le_refl _, fun _ _ => rfl⟩⟩
theorem RInv.at {s : ByteArray} {w : World} {acc : List Tk} {a b : Nat} {out : Value} {W : World} (h : RInv s w acc a out W) (hb : b ≤ s.size) (he : lexR s b = lexR s a) : RInv s w acc b out W :=
 ⟨hb, by rw [he]; exact h.eq, h.ok, h.row, h.below⟩
theorem RInv.done {s : ByteArray} {w : World} {acc : List Tk} {a : Nat} {out : Value} {W : World} (h : RInv s w acc a out W) (ha : ¬ a < s.size) : lexAll s = acc ∧ lexErr s = none := by
 have e : lexAll s = acc := by rw [h.eq, lexR_end ha, List.append_nil]
 exact ⟨e, lexErr_none (by rw [e]; exact h.ok)⟩
theorem RInv.bad {s : ByteArray} {w : World} {acc : List Tk} {a : Nat} {out : Value} {W : World} (h : RInv s w acc a out W) (ha : a < s.size) (h17 : begB (inB 17) s a = false) (he : (tokAt s a).e ≠ 0) : lexErr s = some (tokAt s a) := by
 refine lexErr_some (ys := acc) ?_ h.ok he
 rw [h.eq, lexR_tok ha h17, if_neg he]
 exact List.prefix_refl _
theorem RInv.good {s : ByteArray} {w : World} {acc : List Tk} {a : Nat} {out : Value} {W : World} (h : RInv s w acc a out W) (ha : a < s.size) (h17 : begB (inB 17) s a = false) (he : (tokAt s a).e = 0) : lexAll s = (acc ++ [tokAt s a]) ++ lexR s (tokN s a) := by
 rw [h.eq, lexR_tok ha h17, if_pos he]
 simp
theorem RInv.len {s : ByteArray} {w : World} {acc : List Tk} {a : Nat} {out : Value} {W : World} (h : RInv s w acc a out W) : acc.length ≤ s.size := by
 have h1 := lexAll_le s
 have h2 := congrArg List.length h.eq
 rw [List.length_append] at h2
 omega
theorem beg_at {p : Int → Bool} {s : ByteArray} {a : Nat} (h : a < s.size) : begB p s a = p s[a].toNat := by unfold begB; rw [dif_pos h]
theorem bad_num {x : ByteArray} (h : numB x = false) : numE x = 32 := by unfold numE; rw [h]; rfl
theorem good_num {x : ByteArray} (h : numB x = true) : numE x = 0 ∧ numK x = 3 := by unfold numE numK; rw [h]; exact ⟨rfl, rfl⟩
theorem word_zero {x : ByteArray} : wordK x = 0 → wordE x = 31 := by
 unfold wordK wordE
 cases notB x <;> cases symbolB x <;> cases variableB x <;> simp
theorem word_good {x : ByteArray} : wordK x ≠ 0 → wordE x = 0 := by
 unfold wordK wordE
 cases notB x <;> cases symbolB x <;> cases variableB x <;> simp

theorem start_R (wr : World) (a : Nat) : ∃ W1, wr.alloc (.cells #[.int .i64 0, .string ⟨#[]⟩, .int .i64 a] 153) = W1 ∧ W1.heap.size = wr.heap.size + 1 ∧ TokR wr.heap.size 0 ⟨#[]⟩ a W1 ∧ Below wr.heap.size wr W1 :=
 ⟨_, rfl, by simp, World.alloc_heap_new _ _, bR.alloc (Nat.le_refl _) _⟩

theorem kind_R {T a : Nat} {t : ByteArray} {k : Int} {W1 : World} (h : TokR T k t a W1) (K : Int) : ∃ W2, W1.setCell ⟨T, 0, none⟩ (.int .i64 K) = W2 ∧ TokR T K t a W2 ∧ Below T W1 W2 :=
 ⟨_, rfl, h.kind K, bR.setCell (p := ⟨T, 0, none⟩) (Nat.le_refl _) _⟩
theorem text_R {T a : Nat} {t : ByteArray} {k : Int} {W1 : World} (h : TokR T k t a W1) (x : ByteArray) : ∃ W2, W1.setCell ⟨T, 1, none⟩ (.string x) = W2 ∧ TokR T k x a W2 ∧ Below T W1 W2 :=
 ⟨_, rfl, h.text x, bR.setCell (p := ⟨T, 1, none⟩) (Nat.le_refl _) _⟩
theorem row_R (W : World) (K : Int) (x : ByteArray) (a : Nat) : ∃ W4, W.alloc (.cells #[.int .i64 K, .string x, .int .i64 a] 153) = W4 ∧ W4.heap[W.heap.size]? = some (.cells #[.int .i64 K, .string x, .int .i64 a] 153 (0, 0)) ∧ Below W.heap.size W W4 :=
 ⟨_, rfl, World.alloc_heap_new _ _, bR.alloc (Nat.le_refl _) _⟩
theorem own_growR {w w' : World} {base : Nat} {e : TypeId} {size : Nat} {v : Value} {n : Nat} {xs : List Value} (h : w.ownsRow base e size v n xs) (hb : Below w.heap.size w w') : w'.ownsRow base e size v n xs :=
 h.kept (row := none) ⟨hb.os, hb.tape, hb.output, hb.size, fun k hk _ => hb.block k hk⟩ (by cases h1 : v.ownBlock <;> simp)

theorem rlex_any (s : ByteArray) (w : World) (hs : s.size ≤ 32768) :
   Calls Tryz.prog 106 #[.string s] w (RPost s w) := by
 have HS := Hi hs
 have hd : decide ((32768 : Int) < (s.size : Int)) = false := by simp; omega
 have HM : Hid (s.size ≤ maxLen) := Hi (by unfold maxLen; omega)
 go_enter Tryz.func106, Tryz.ntmps106
 go_wp2
 clear hd
 go_loopw [5, 6] (fun o i wr => ∃ (acc : List Tk) (a : Nat) (out : Value), i = .int .i64 a ∧ out = o ∧ RInv s w acc a out wr) (fun _ i _ => s.size - (intOf i).toNat)
 case atStart => exact ⟨[], 0, _, rfl, rfl, ⟨Nat.zero_le _, rfl, by simp, ⟨rfl, .inl ⟨rfl, rfl⟩⟩, Below.refl _ _⟩⟩
 case round =>
   obtain ⟨acc, a, out, rfl, rfl, hI⟩ := hrel
   have HI := Hi hI
   have hle := hI.le
   clear hI
   by_cases hlt : a < s.size
   · cases q1 : inB 1 (s[a].toNat : Int)
     · cases q16 : ((s[a].toNat : Int) == 37)
       · have h17 : begB (inB 17) s a = false := by rw [beg_at hlt, inB17, q1, inB16, q16]; rfl
         have H17 := Hi h17
         clear h17
         obtain ⟨W1, hW1, hz1, ht1, hB1⟩ := start_R wr a
         have t0 := cells_at ht1 0 _ rfl
         have f0 := ht1.f
         have HT1 := Hi ht1
         have HB1 := Hi hB1
         clear ht1 hB1

         cases q2 : inB 2 (s[a].toNat : Int)
         · cases q95 : ((s[a].toNat : Int) == 95)
           · have hb10 : begB (inB 10) s a = false := by rw [beg_at hlt, inB10, q2, inB8, q95]; rfl
             cases q4 : inB 4 (s[a].toNat : Int)
             · have hb4 : begB (inB 4) s a = false := by rw [beg_at hlt]; exact q4
               cases q35 : ((s[a].toNat : Int) == 35)
               · have hb32 : begB (inB 32) s a = false := by rw [beg_at hlt, inB32]; exact q35
                 have htn : tokN s a = a + signL (s.data.toList.drop a) := by
                   unfold tokN
                   simp only [hb10, hb4, hb32, reduceIte, Bool.false_eq_true]
                 have htk : tokAt s a = ⟨sigK (s.extract a (a + signL (s.data.toList.drop a))), s.extract a (a + signL (s.data.toList.drop a)), a, sigE (s.extract a (a + signL (s.data.toList.drop a)))⟩ := by
                   unfold tokAt
                   rw [htn]
                   unfold tkK tkE
                   simp only [hb10, hb4, hb32, reduceIte, Bool.false_eq_true]
                 have hsl := signL_le (s.data.toList.drop a)
                 rw [List.length_drop, show s.data.toList.length = s.size from rfl] at hsl
                 have HSG := Hi (fun w => rsign_any s a w HM.out hlt)
                 generalize signL (s.data.toList.drop a) = n at htk htn hsl HSG
                 obtain ⟨j, hjn⟩ : ∃ j, a + n = j := ⟨_, rfl⟩
                 rw [hjn] at htk htn
                 have hj : j ≤ s.size := by omega
                 have hjc : (a : Int) + (n : Int) = (j : Int) := by omega
                 have HTK := Hi htk
                 have HN := Hi htn
                 clear htk htn

                 obtain ⟨W2, hW2, ht2, hB2⟩ := kind_R HT1.out (6)
                 have HB2 := Hi (HB1.out.trans (hB2.mono (by omega)))
                 have u0 := cells_at ht2 0 _ rfl
                 have u1 := cells_at ht2 1 _ rfl
                 have f1 := ht2.f
                 have HBW := HB2
                 clear hB2
                 go_wp2_with (first | (go_at_call 144; refine (rblank_any _ _).mono ?_; rintro e w2 ⟨rfl, rfl⟩) | (go_at_call 145; refine (rletter_any _ _).mono ?_; rintro e w2 ⟨rfl, rfl⟩) | (go_at_call 146; refine (rdigit3_any _ _).mono ?_; rintro e w2 ⟨rfl, rfl⟩))
                 refine (HSG.out _).mono ?_
                 rintro e W5 ⟨rfl, n5, hn5⟩
                 have ht5 : TokR wr.heap.size 6 ⟨#[]⟩ a W5 := by rw [hn5]; exact ht2.drew n5
                 have hB5 : Below wr.heap.size wr W5 := HB2.out.trans (by rw [hn5]; exact ⟨rfl, rfl, rfl, Nat.le_refl _, fun _ _ => rfl⟩)
                 have u5 := cells_at ht5 0 _ rfl
                 have u6 := cells_at ht5 1 _ rfl
                 have f5 := ht5.f
                 clear HB2 HBW ht2 hn5
                 have HB2 := Hi hB5
                 have HBW := HB2
                 have ht2 := ht5
                 clear hB5 ht5
                 by_cases hn0 : n = 0
                 · subst hn0
                   obtain rfl : a = j := by omega
                   have he : (s.extract a a).toList.isEmpty = true := by
                     rw [toList_data]
                     have : (s.extract a a).data.toList.length = 0 := by show (s.extract a a).size = 0; rw [ByteArray.size_extract]; omega
                     rw [List.length_eq_zero_iff] at this; rw [this]; rfl
                   have HT : Hid (tokAt s a = ⟨0, s.extract a a, a, 30⟩) := Hi (by rw [HTK.out]; unfold sigK sigE; rw [he]; rfl)
                   clear HTK ht2 he
                   go_wp2_with (first | (go_at_call 144; refine (rblank_any _ _).mono ?_; rintro e w2 ⟨rfl, rfl⟩) | (go_at_call 145; refine (rletter_any _ _).mono ?_; rintro e w2 ⟨rfl, rfl⟩) | (go_at_call 146; refine (rdigit3_any _ _).mono ?_; rintro e w2 ⟨rfl, rfl⟩))
                   refine bodyPost_ret (v := .tuple #[.slice none 0 0, .int .i64 a, .int .i64 30]) (by simp [results, Tryz.results106, go_sem]) rfl ?_
                   refine ⟨HI.out.below.trans (HBW.out.mono HI.out.below.size), ?_⟩
                   rw [HI.out.bad hlt H17.out (by rw [HT.out]; show (30 : Int) ≠ 0; decide)]
                   show _ = Ending.returned (.tuple #[.slice none 0 0, .int .i64 (tokAt s a).a, .int .i64 (tokAt s a).e])
                   rw [HT.out]
                 · have he : (s.extract a j).toList.isEmpty = false := by
                     rw [toList_data, Bool.eq_false_iff]
                     intro h
                     have h0 : (s.extract a j).data.toList = [] := by simpa using h
                     have : (s.extract a j).data.toList.length = j - a := by show (s.extract a j).size = _; rw [ByteArray.size_extract]; omega
                     rw [h0] at this; simp at this; omega
                   have HT : Hid (tokAt s a = ⟨6, s.extract a j, a, 0⟩) := Hi (by rw [HTK.out]; unfold sigK sigE; rw [he]; rfl)
                   have hgt : a < j := by omega
                   have e0 : ((j : Int) == (a : Int)) = false := by rw [beq_eq_false_iff_ne]; omega
                   clear HTK he
                   as_aux_lemma =>
                     obtain ⟨W3, hW3, ht3, hB3⟩ := text_R ht2 (s.extract a j)
                     have hB13 := HB2.out.trans hB3
                     have v0 := cells_at ht3 0 _ rfl
                     have v1 := cells_at ht3 1 _ rfl
                     have v2 := cells_at ht3 2 _ rfl
                     obtain ⟨W4, hW4, hc4, hB4⟩ := row_R W3 6 (s.extract a j) a
                     have hB14 := hB13.trans (hB4.mono hB13.size)
                     have hsz4 := hB14.size
                     have hsz0 := HI.out.below.size
                     have hln := HI.out.len
                     obtain ⟨i0, hi⟩ := info_parts infoR
                     have HIF := Hi hi
                     have HRW := Hi (own_growR HI.out.row hB14)
                     have HB14 := Hi hB14
                     have HC4 := Hi hc4
                     clear ht2 ht3 hB3 hB13 hc4 hB4 hB14 hi
                     go_wp2_with (first | (go_at_call 144; refine (rblank_any _ _).mono ?_; rintro e w2 ⟨rfl, rfl⟩) | (go_at_call 145; refine (rletter_any _ _).mono ?_; rintro e w2 ⟨rfl, rfl⟩) | (go_at_call 146; refine (rdigit3_any _ _).mono ?_; rintro e w2 ⟨rfl, rfl⟩) | (at_builtin; go_loud (refine wpList_append_own _ rfl _ _ 104 rfl w.heap.size 153 i0 _ 3 32 Tryz.underlying104 HIF.out.1 HIF.out.2.1 HIF.out.2.2.1 HIF.out.2.2.2 rfl (by decide) _ _ _ rfl HRW.out ⟨_, 0, none⟩ 1 1 [.int .i64 6, .string (s.extract a j), .int .i64 a] rfl rfl ?c1 ?c2 ?c3 ?c4 ?c5 ?_)))
                     case c1 =>
                       intro jj u hu
                       rcases jj with _ | _ | _ | jj
                       · cases hu; exact cells_at HC4.out 0 _ rfl
                       · cases hu; exact cells_at HC4.out 1 _ rfl
                       · cases hu; exact cells_at HC4.out 2 _ rfl
                       · simp at hu
                     case c2 => simp [Value.oneCell']
                     case c3 => have := HS.out; unfold maxLen; omega
                     case c4 => have := HS.out; omega
                     case c5 => omega
                     intro v6 w6 hO6 hg6 _
                     have hB6 : Below w.heap.size w w6 := (HI.out.below.trans (HB14.out.mono HI.out.below.size)).grown hg6 (by omega) (fun k e => by have := (HRW.out.lt k e).1; omega)
                     have hO6' : w6.ownsRow w.heap.size 153 3 v6 (acc ++ [tokAt s a]).length (cellsR (acc ++ [tokAt s a])) := by
                       rw [HT.out, cellsR_append, List.length_append]
                       exact hO6
                     have HI6 : Hid (RInv s w (acc ++ [tokAt s a]) j v6 w6) := Hi ⟨hj, by rw [HI.out.good hlt H17.out (by rw [HT.out]), HN.out], fun x hx => by
                       rcases List.mem_append.1 hx with h | h
                       · exact HI.out.ok x h
                       · simp at h; rw [h, HT.out], hO6', hB6⟩
                     clear hO6 hO6' hg6 hB6
                     go_wp2_with fail
                     go_roundw
                     case rel => exact ⟨acc ++ [tokAt s a], j, _, rfl, rfl, HI6.out⟩
                     case measure => simp [intOf]; omega
               · have hb32 : begB (inB 32) s a = true := by rw [beg_at hlt, inB32]; exact q35
                 go_wp2_with (first | (go_at_call 144; refine (rblank_any _ _).mono ?_; rintro e w2 ⟨rfl, rfl⟩) | (go_at_call 145; refine (rletter_any _ _).mono ?_; rintro e w2 ⟨rfl, rfl⟩) | (go_at_call 146; refine (rdigit3_any _ _).mono ?_; rintro e w2 ⟨rfl, rfl⟩))
                 go_loop [7] (fun i => ∃ j : Nat, a + 1 ≤ j ∧ j ≤ s.size ∧ i = .int .i64 j ∧ runN (inB 2) s j = runN (inB 2) s (a + 1)) (fun i => s.size - (intOf i).toNat)
                 case atStart => exact ⟨a + 1, Nat.le_refl _, by omega, rfl, rfl⟩
                 case round =>
                   obtain ⟨j, haj, hj, rfl, hr⟩ := hrel
                   have HR := Hi hr
                   clear hr
                   by_cases hlj : j < s.size
                   · cases p2 : inB 2 (s[j].toNat : Int)
                     · have hje := runN_stop (p := inB 2) (s := s) (a := j) (by rw [beg_at hlj]; exact p2)
                       have hjr : j = runN (inB 2) s (a + 1) := hje.symm.trans HR.out
                       have htn : tokN s a = j := by
                         unfold tokN
                         simp only [hb10, hb4, hb32, reduceIte, Bool.false_eq_true]
                         exact hjr.symm
                       have htk : tokAt s a = ⟨dirK (s.extract a j), s.extract a j, a, dirE (s.extract a j)⟩ := by
                         unfold tokAt
                         rw [htn]
                         unfold tkK tkE
                         simp only [hb10, hb4, hb32, reduceIte, Bool.false_eq_true]
                       have HTK := Hi htk
                       have HN := Hi htn
                       clear hje hjr htk htn
                       have hgt : a < j := by omega

                       obtain ⟨W2, hW2, ht2, hB2⟩ := kind_R HT1.out (5)
                       have HB2 := Hi (HB1.out.trans (hB2.mono (by omega)))
                       have u0 := cells_at ht2 0 _ rfl
                       have u1 := cells_at ht2 1 _ rfl
                       have f1 := ht2.f
                       have HBW := HB2
                       clear hB2
                       have HD : dirB (s.extract a j) = ((s.extract a j).toList == [35, 99, 111, 110, 115, 116] || (s.extract a j).toList == [35, 115, 104, 111, 119] || (s.extract a j).toList == [35, 109, 105, 110, 105, 109, 105, 122, 101] || (s.extract a j).toList == [35, 99, 111, 117, 110, 116] || (s.extract a j).toList == [35, 115, 117, 109]) := rfl
                       cases d0 : ((s.extract a j).toList == [35, 99, 111, 110, 115, 116])
                       · cases d1 : ((s.extract a j).toList == [35, 115, 104, 111, 119])
                         · cases d2 : ((s.extract a j).toList == [35, 109, 105, 110, 105, 109, 105, 122, 101])
                           · cases d3 : ((s.extract a j).toList == [35, 99, 111, 117, 110, 116])
                             · cases d4 : ((s.extract a j).toList == [35, 115, 117, 109])
                               · have HT : Hid (tokAt s a = ⟨0, s.extract a j, a, 31⟩) := Hi (by rw [HTK.out]; unfold dirK dirE; rw [HD, d0, d1, d2, d3, d4]; rfl)
                                 clear HTK HD ht2
                                 go_wp2_with (first | (go_at_call 144; refine (rblank_any _ _).mono ?_; rintro e w2 ⟨rfl, rfl⟩) | (go_at_call 145; refine (rletter_any _ _).mono ?_; rintro e w2 ⟨rfl, rfl⟩) | (go_at_call 146; refine (rdigit3_any _ _).mono ?_; rintro e w2 ⟨rfl, rfl⟩))
                                 refine bodyPost_ret (v := .tuple #[.slice none 0 0, .int .i64 a, .int .i64 31]) (by simp [results, Tryz.results106, go_sem]) rfl ?_
                                 refine ⟨HI.out.below.trans (HBW.out.mono HI.out.below.size), ?_⟩
                                 rw [HI.out.bad hlt H17.out (by rw [HT.out]; show (31 : Int) ≠ 0; decide)]
                                 show _ = Ending.returned (.tuple #[.slice none 0 0, .int .i64 (tokAt s a).a, .int .i64 (tokAt s a).e])
                                 rw [HT.out]
                               · have HT : Hid (tokAt s a = ⟨5, s.extract a j, a, 0⟩) := Hi (by rw [HTK.out]; unfold dirK dirE; rw [HD, d0, d1, d2, d3, d4]; rfl)
                                 clear HTK HD
                                 as_aux_lemma =>
                                   obtain ⟨W3, hW3, ht3, hB3⟩ := text_R ht2 (s.extract a j)
                                   have hB13 := HB2.out.trans hB3
                                   have v0 := cells_at ht3 0 _ rfl
                                   have v1 := cells_at ht3 1 _ rfl
                                   have v2 := cells_at ht3 2 _ rfl
                                   obtain ⟨W4, hW4, hc4, hB4⟩ := row_R W3 5 (s.extract a j) a
                                   have hB14 := hB13.trans (hB4.mono hB13.size)
                                   have hsz4 := hB14.size
                                   have hsz0 := HI.out.below.size
                                   have hln := HI.out.len
                                   obtain ⟨i0, hi⟩ := info_parts infoR
                                   have HIF := Hi hi
                                   have HRW := Hi (own_growR HI.out.row hB14)
                                   have HB14 := Hi hB14
                                   have HC4 := Hi hc4
                                   clear ht2 ht3 hB3 hB13 hc4 hB4 hB14 hi
                                   go_wp2_with (first | (go_at_call 144; refine (rblank_any _ _).mono ?_; rintro e w2 ⟨rfl, rfl⟩) | (go_at_call 145; refine (rletter_any _ _).mono ?_; rintro e w2 ⟨rfl, rfl⟩) | (go_at_call 146; refine (rdigit3_any _ _).mono ?_; rintro e w2 ⟨rfl, rfl⟩) | (at_builtin; go_loud (refine wpList_append_own _ rfl _ _ 104 rfl w.heap.size 153 i0 _ 3 32 Tryz.underlying104 HIF.out.1 HIF.out.2.1 HIF.out.2.2.1 HIF.out.2.2.2 rfl (by decide) _ _ _ rfl HRW.out ⟨_, 0, none⟩ 1 1 [.int .i64 5, .string (s.extract a j), .int .i64 a] rfl rfl ?c1 ?c2 ?c3 ?c4 ?c5 ?_)))
                                   case c1 =>
                                     intro jj u hu
                                     rcases jj with _ | _ | _ | jj
                                     · cases hu; exact cells_at HC4.out 0 _ rfl
                                     · cases hu; exact cells_at HC4.out 1 _ rfl
                                     · cases hu; exact cells_at HC4.out 2 _ rfl
                                     · simp at hu
                                   case c2 => simp [Value.oneCell']
                                   case c3 => have := HS.out; unfold maxLen; omega
                                   case c4 => have := HS.out; omega
                                   case c5 => omega
                                   intro v6 w6 hO6 hg6 _
                                   have hB6 : Below w.heap.size w w6 := (HI.out.below.trans (HB14.out.mono HI.out.below.size)).grown hg6 (by omega) (fun k e => by have := (HRW.out.lt k e).1; omega)
                                   have hO6' : w6.ownsRow w.heap.size 153 3 v6 (acc ++ [tokAt s a]).length (cellsR (acc ++ [tokAt s a])) := by
                                     rw [HT.out, cellsR_append, List.length_append]
                                     exact hO6
                                   have HI6 : Hid (RInv s w (acc ++ [tokAt s a]) j v6 w6) := Hi ⟨hj, by rw [HI.out.good hlt H17.out (by rw [HT.out]), HN.out], fun x hx => by
                                     rcases List.mem_append.1 hx with h | h
                                     · exact HI.out.ok x h
                                     · simp at h; rw [h, HT.out], hO6', hB6⟩
                                   clear hO6 hO6' hg6 hB6
                                   go_wp2_with fail
                                   go_roundw
                                   case rel => exact ⟨acc ++ [tokAt s a], j, _, rfl, rfl, HI6.out⟩
                                   case measure => simp [intOf]; omega
                             · have HT : Hid (tokAt s a = ⟨5, s.extract a j, a, 0⟩) := Hi (by rw [HTK.out]; unfold dirK dirE; rw [HD, d0, d1, d2, d3]; rfl)
                               clear HTK HD
                               as_aux_lemma =>
                                 obtain ⟨W3, hW3, ht3, hB3⟩ := text_R ht2 (s.extract a j)
                                 have hB13 := HB2.out.trans hB3
                                 have v0 := cells_at ht3 0 _ rfl
                                 have v1 := cells_at ht3 1 _ rfl
                                 have v2 := cells_at ht3 2 _ rfl
                                 obtain ⟨W4, hW4, hc4, hB4⟩ := row_R W3 5 (s.extract a j) a
                                 have hB14 := hB13.trans (hB4.mono hB13.size)
                                 have hsz4 := hB14.size
                                 have hsz0 := HI.out.below.size
                                 have hln := HI.out.len
                                 obtain ⟨i0, hi⟩ := info_parts infoR
                                 have HIF := Hi hi
                                 have HRW := Hi (own_growR HI.out.row hB14)
                                 have HB14 := Hi hB14
                                 have HC4 := Hi hc4
                                 clear ht2 ht3 hB3 hB13 hc4 hB4 hB14 hi
                                 go_wp2_with (first | (go_at_call 144; refine (rblank_any _ _).mono ?_; rintro e w2 ⟨rfl, rfl⟩) | (go_at_call 145; refine (rletter_any _ _).mono ?_; rintro e w2 ⟨rfl, rfl⟩) | (go_at_call 146; refine (rdigit3_any _ _).mono ?_; rintro e w2 ⟨rfl, rfl⟩) | (at_builtin; go_loud (refine wpList_append_own _ rfl _ _ 104 rfl w.heap.size 153 i0 _ 3 32 Tryz.underlying104 HIF.out.1 HIF.out.2.1 HIF.out.2.2.1 HIF.out.2.2.2 rfl (by decide) _ _ _ rfl HRW.out ⟨_, 0, none⟩ 1 1 [.int .i64 5, .string (s.extract a j), .int .i64 a] rfl rfl ?c1 ?c2 ?c3 ?c4 ?c5 ?_)))
                                 case c1 =>
                                   intro jj u hu
                                   rcases jj with _ | _ | _ | jj
                                   · cases hu; exact cells_at HC4.out 0 _ rfl
                                   · cases hu; exact cells_at HC4.out 1 _ rfl
                                   · cases hu; exact cells_at HC4.out 2 _ rfl
                                   · simp at hu
                                 case c2 => simp [Value.oneCell']
                                 case c3 => have := HS.out; unfold maxLen; omega
                                 case c4 => have := HS.out; omega
                                 case c5 => omega
                                 intro v6 w6 hO6 hg6 _
                                 have hB6 : Below w.heap.size w w6 := (HI.out.below.trans (HB14.out.mono HI.out.below.size)).grown hg6 (by omega) (fun k e => by have := (HRW.out.lt k e).1; omega)
                                 have hO6' : w6.ownsRow w.heap.size 153 3 v6 (acc ++ [tokAt s a]).length (cellsR (acc ++ [tokAt s a])) := by
                                   rw [HT.out, cellsR_append, List.length_append]
                                   exact hO6
                                 have HI6 : Hid (RInv s w (acc ++ [tokAt s a]) j v6 w6) := Hi ⟨hj, by rw [HI.out.good hlt H17.out (by rw [HT.out]), HN.out], fun x hx => by
                                   rcases List.mem_append.1 hx with h | h
                                   · exact HI.out.ok x h
                                   · simp at h; rw [h, HT.out], hO6', hB6⟩
                                 clear hO6 hO6' hg6 hB6
                                 go_wp2_with fail
                                 go_roundw
                                 case rel => exact ⟨acc ++ [tokAt s a], j, _, rfl, rfl, HI6.out⟩
                                 case measure => simp [intOf]; omega
                           · have HT : Hid (tokAt s a = ⟨5, s.extract a j, a, 0⟩) := Hi (by rw [HTK.out]; unfold dirK dirE; rw [HD, d0, d1, d2]; rfl)
                             clear HTK HD
                             as_aux_lemma =>
                               obtain ⟨W3, hW3, ht3, hB3⟩ := text_R ht2 (s.extract a j)
                               have hB13 := HB2.out.trans hB3
                               have v0 := cells_at ht3 0 _ rfl
                               have v1 := cells_at ht3 1 _ rfl
                               have v2 := cells_at ht3 2 _ rfl
                               obtain ⟨W4, hW4, hc4, hB4⟩ := row_R W3 5 (s.extract a j) a
                               have hB14 := hB13.trans (hB4.mono hB13.size)
                               have hsz4 := hB14.size
                               have hsz0 := HI.out.below.size
                               have hln := HI.out.len
                               obtain ⟨i0, hi⟩ := info_parts infoR
                               have HIF := Hi hi
                               have HRW := Hi (own_growR HI.out.row hB14)
                               have HB14 := Hi hB14
                               have HC4 := Hi hc4
                               clear ht2 ht3 hB3 hB13 hc4 hB4 hB14 hi
                               go_wp2_with (first | (go_at_call 144; refine (rblank_any _ _).mono ?_; rintro e w2 ⟨rfl, rfl⟩) | (go_at_call 145; refine (rletter_any _ _).mono ?_; rintro e w2 ⟨rfl, rfl⟩) | (go_at_call 146; refine (rdigit3_any _ _).mono ?_; rintro e w2 ⟨rfl, rfl⟩) | (at_builtin; go_loud (refine wpList_append_own _ rfl _ _ 104 rfl w.heap.size 153 i0 _ 3 32 Tryz.underlying104 HIF.out.1 HIF.out.2.1 HIF.out.2.2.1 HIF.out.2.2.2 rfl (by decide) _ _ _ rfl HRW.out ⟨_, 0, none⟩ 1 1 [.int .i64 5, .string (s.extract a j), .int .i64 a] rfl rfl ?c1 ?c2 ?c3 ?c4 ?c5 ?_)))
                               case c1 =>
                                 intro jj u hu
                                 rcases jj with _ | _ | _ | jj
                                 · cases hu; exact cells_at HC4.out 0 _ rfl
                                 · cases hu; exact cells_at HC4.out 1 _ rfl
                                 · cases hu; exact cells_at HC4.out 2 _ rfl
                                 · simp at hu
                               case c2 => simp [Value.oneCell']
                               case c3 => have := HS.out; unfold maxLen; omega
                               case c4 => have := HS.out; omega
                               case c5 => omega
                               intro v6 w6 hO6 hg6 _
                               have hB6 : Below w.heap.size w w6 := (HI.out.below.trans (HB14.out.mono HI.out.below.size)).grown hg6 (by omega) (fun k e => by have := (HRW.out.lt k e).1; omega)
                               have hO6' : w6.ownsRow w.heap.size 153 3 v6 (acc ++ [tokAt s a]).length (cellsR (acc ++ [tokAt s a])) := by
                                 rw [HT.out, cellsR_append, List.length_append]
                                 exact hO6
                               have HI6 : Hid (RInv s w (acc ++ [tokAt s a]) j v6 w6) := Hi ⟨hj, by rw [HI.out.good hlt H17.out (by rw [HT.out]), HN.out], fun x hx => by
                                 rcases List.mem_append.1 hx with h | h
                                 · exact HI.out.ok x h
                                 · simp at h; rw [h, HT.out], hO6', hB6⟩
                               clear hO6 hO6' hg6 hB6
                               go_wp2_with fail
                               go_roundw
                               case rel => exact ⟨acc ++ [tokAt s a], j, _, rfl, rfl, HI6.out⟩
                               case measure => simp [intOf]; omega
                         · have HT : Hid (tokAt s a = ⟨5, s.extract a j, a, 0⟩) := Hi (by rw [HTK.out]; unfold dirK dirE; rw [HD, d0, d1]; rfl)
                           clear HTK HD
                           as_aux_lemma =>
                             obtain ⟨W3, hW3, ht3, hB3⟩ := text_R ht2 (s.extract a j)
                             have hB13 := HB2.out.trans hB3
                             have v0 := cells_at ht3 0 _ rfl
                             have v1 := cells_at ht3 1 _ rfl
                             have v2 := cells_at ht3 2 _ rfl
                             obtain ⟨W4, hW4, hc4, hB4⟩ := row_R W3 5 (s.extract a j) a
                             have hB14 := hB13.trans (hB4.mono hB13.size)
                             have hsz4 := hB14.size
                             have hsz0 := HI.out.below.size
                             have hln := HI.out.len
                             obtain ⟨i0, hi⟩ := info_parts infoR
                             have HIF := Hi hi
                             have HRW := Hi (own_growR HI.out.row hB14)
                             have HB14 := Hi hB14
                             have HC4 := Hi hc4
                             clear ht2 ht3 hB3 hB13 hc4 hB4 hB14 hi
                             go_wp2_with (first | (go_at_call 144; refine (rblank_any _ _).mono ?_; rintro e w2 ⟨rfl, rfl⟩) | (go_at_call 145; refine (rletter_any _ _).mono ?_; rintro e w2 ⟨rfl, rfl⟩) | (go_at_call 146; refine (rdigit3_any _ _).mono ?_; rintro e w2 ⟨rfl, rfl⟩) | (at_builtin; go_loud (refine wpList_append_own _ rfl _ _ 104 rfl w.heap.size 153 i0 _ 3 32 Tryz.underlying104 HIF.out.1 HIF.out.2.1 HIF.out.2.2.1 HIF.out.2.2.2 rfl (by decide) _ _ _ rfl HRW.out ⟨_, 0, none⟩ 1 1 [.int .i64 5, .string (s.extract a j), .int .i64 a] rfl rfl ?c1 ?c2 ?c3 ?c4 ?c5 ?_)))
                             case c1 =>
                               intro jj u hu
                               rcases jj with _ | _ | _ | jj
                               · cases hu; exact cells_at HC4.out 0 _ rfl
                               · cases hu; exact cells_at HC4.out 1 _ rfl
                               · cases hu; exact cells_at HC4.out 2 _ rfl
                               · simp at hu
                             case c2 => simp [Value.oneCell']
                             case c3 => have := HS.out; unfold maxLen; omega
                             case c4 => have := HS.out; omega
                             case c5 => omega
                             intro v6 w6 hO6 hg6 _
                             have hB6 : Below w.heap.size w w6 := (HI.out.below.trans (HB14.out.mono HI.out.below.size)).grown hg6 (by omega) (fun k e => by have := (HRW.out.lt k e).1; omega)
                             have hO6' : w6.ownsRow w.heap.size 153 3 v6 (acc ++ [tokAt s a]).length (cellsR (acc ++ [tokAt s a])) := by
                               rw [HT.out, cellsR_append, List.length_append]
                               exact hO6
                             have HI6 : Hid (RInv s w (acc ++ [tokAt s a]) j v6 w6) := Hi ⟨hj, by rw [HI.out.good hlt H17.out (by rw [HT.out]), HN.out], fun x hx => by
                               rcases List.mem_append.1 hx with h | h
                               · exact HI.out.ok x h
                               · simp at h; rw [h, HT.out], hO6', hB6⟩
                             clear hO6 hO6' hg6 hB6
                             go_wp2_with fail
                             go_roundw
                             case rel => exact ⟨acc ++ [tokAt s a], j, _, rfl, rfl, HI6.out⟩
                             case measure => simp [intOf]; omega
                       · have HT : Hid (tokAt s a = ⟨5, s.extract a j, a, 0⟩) := Hi (by rw [HTK.out]; unfold dirK dirE; rw [HD, d0]; rfl)
                         clear HTK HD
                         as_aux_lemma =>
                           obtain ⟨W3, hW3, ht3, hB3⟩ := text_R ht2 (s.extract a j)
                           have hB13 := HB2.out.trans hB3
                           have v0 := cells_at ht3 0 _ rfl
                           have v1 := cells_at ht3 1 _ rfl
                           have v2 := cells_at ht3 2 _ rfl
                           obtain ⟨W4, hW4, hc4, hB4⟩ := row_R W3 5 (s.extract a j) a
                           have hB14 := hB13.trans (hB4.mono hB13.size)
                           have hsz4 := hB14.size
                           have hsz0 := HI.out.below.size
                           have hln := HI.out.len
                           obtain ⟨i0, hi⟩ := info_parts infoR
                           have HIF := Hi hi
                           have HRW := Hi (own_growR HI.out.row hB14)
                           have HB14 := Hi hB14
                           have HC4 := Hi hc4
                           clear ht2 ht3 hB3 hB13 hc4 hB4 hB14 hi
                           go_wp2_with (first | (go_at_call 144; refine (rblank_any _ _).mono ?_; rintro e w2 ⟨rfl, rfl⟩) | (go_at_call 145; refine (rletter_any _ _).mono ?_; rintro e w2 ⟨rfl, rfl⟩) | (go_at_call 146; refine (rdigit3_any _ _).mono ?_; rintro e w2 ⟨rfl, rfl⟩) | (at_builtin; go_loud (refine wpList_append_own _ rfl _ _ 104 rfl w.heap.size 153 i0 _ 3 32 Tryz.underlying104 HIF.out.1 HIF.out.2.1 HIF.out.2.2.1 HIF.out.2.2.2 rfl (by decide) _ _ _ rfl HRW.out ⟨_, 0, none⟩ 1 1 [.int .i64 5, .string (s.extract a j), .int .i64 a] rfl rfl ?c1 ?c2 ?c3 ?c4 ?c5 ?_)))
                           case c1 =>
                             intro jj u hu
                             rcases jj with _ | _ | _ | jj
                             · cases hu; exact cells_at HC4.out 0 _ rfl
                             · cases hu; exact cells_at HC4.out 1 _ rfl
                             · cases hu; exact cells_at HC4.out 2 _ rfl
                             · simp at hu
                           case c2 => simp [Value.oneCell']
                           case c3 => have := HS.out; unfold maxLen; omega
                           case c4 => have := HS.out; omega
                           case c5 => omega
                           intro v6 w6 hO6 hg6 _
                           have hB6 : Below w.heap.size w w6 := (HI.out.below.trans (HB14.out.mono HI.out.below.size)).grown hg6 (by omega) (fun k e => by have := (HRW.out.lt k e).1; omega)
                           have hO6' : w6.ownsRow w.heap.size 153 3 v6 (acc ++ [tokAt s a]).length (cellsR (acc ++ [tokAt s a])) := by
                             rw [HT.out, cellsR_append, List.length_append]
                             exact hO6
                           have HI6 : Hid (RInv s w (acc ++ [tokAt s a]) j v6 w6) := Hi ⟨hj, by rw [HI.out.good hlt H17.out (by rw [HT.out]), HN.out], fun x hx => by
                             rcases List.mem_append.1 hx with h | h
                             · exact HI.out.ok x h
                             · simp at h; rw [h, HT.out], hO6', hB6⟩
                           clear hO6 hO6' hg6 hB6
                           go_wp2_with fail
                           go_roundw
                           case rel => exact ⟨acc ++ [tokAt s a], j, _, rfl, rfl, HI6.out⟩
                           case measure => simp [intOf]; omega
                     · go_wp2_with (first | (go_at_call 144; refine (rblank_any _ _).mono ?_; rintro e w2 ⟨rfl, rfl⟩) | (go_at_call 145; refine (rletter_any _ _).mono ?_; rintro e w2 ⟨rfl, rfl⟩) | (go_at_call 146; refine (rdigit3_any _ _).mono ?_; rintro e w2 ⟨rfl, rfl⟩))
                       go_round
                       case rel => exact ⟨j + 1, by omega, by omega, by go_num, by rw [runN_step (by rw [beg_at hlj]; exact p2)]; exact HR.out⟩
                       case measure => simp [intOf]; omega
                   · have hje := runN_stop (p := inB 2) (s := s) (a := j) (by unfold begB; rw [dif_neg hlj])
                     have hjr : j = runN (inB 2) s (a + 1) := hje.symm.trans HR.out
                     have htn : tokN s a = j := by
                       unfold tokN
                       simp only [hb10, hb4, hb32, reduceIte, Bool.false_eq_true]
                       exact hjr.symm
                     have htk : tokAt s a = ⟨dirK (s.extract a j), s.extract a j, a, dirE (s.extract a j)⟩ := by
                       unfold tokAt
                       rw [htn]
                       unfold tkK tkE
                       simp only [hb10, hb4, hb32, reduceIte, Bool.false_eq_true]
                     have HTK := Hi htk
                     have HN := Hi htn
                     clear hje hjr htk htn
                     have hgt : a < j := by omega

                     obtain ⟨W2, hW2, ht2, hB2⟩ := kind_R HT1.out (5)
                     have HB2 := Hi (HB1.out.trans (hB2.mono (by omega)))
                     have u0 := cells_at ht2 0 _ rfl
                     have u1 := cells_at ht2 1 _ rfl
                     have f1 := ht2.f
                     have HBW := HB2
                     clear hB2
                     have HD : dirB (s.extract a j) = ((s.extract a j).toList == [35, 99, 111, 110, 115, 116] || (s.extract a j).toList == [35, 115, 104, 111, 119] || (s.extract a j).toList == [35, 109, 105, 110, 105, 109, 105, 122, 101] || (s.extract a j).toList == [35, 99, 111, 117, 110, 116] || (s.extract a j).toList == [35, 115, 117, 109]) := rfl
                     cases d0 : ((s.extract a j).toList == [35, 99, 111, 110, 115, 116])
                     · cases d1 : ((s.extract a j).toList == [35, 115, 104, 111, 119])
                       · cases d2 : ((s.extract a j).toList == [35, 109, 105, 110, 105, 109, 105, 122, 101])
                         · cases d3 : ((s.extract a j).toList == [35, 99, 111, 117, 110, 116])
                           · cases d4 : ((s.extract a j).toList == [35, 115, 117, 109])
                             · have HT : Hid (tokAt s a = ⟨0, s.extract a j, a, 31⟩) := Hi (by rw [HTK.out]; unfold dirK dirE; rw [HD, d0, d1, d2, d3, d4]; rfl)
                               clear HTK HD ht2
                               go_wp2_with (first | (go_at_call 144; refine (rblank_any _ _).mono ?_; rintro e w2 ⟨rfl, rfl⟩) | (go_at_call 145; refine (rletter_any _ _).mono ?_; rintro e w2 ⟨rfl, rfl⟩) | (go_at_call 146; refine (rdigit3_any _ _).mono ?_; rintro e w2 ⟨rfl, rfl⟩))
                               refine bodyPost_ret (v := .tuple #[.slice none 0 0, .int .i64 a, .int .i64 31]) (by simp [results, Tryz.results106, go_sem]) rfl ?_
                               refine ⟨HI.out.below.trans (HBW.out.mono HI.out.below.size), ?_⟩
                               rw [HI.out.bad hlt H17.out (by rw [HT.out]; show (31 : Int) ≠ 0; decide)]
                               show _ = Ending.returned (.tuple #[.slice none 0 0, .int .i64 (tokAt s a).a, .int .i64 (tokAt s a).e])
                               rw [HT.out]
                             · have HT : Hid (tokAt s a = ⟨5, s.extract a j, a, 0⟩) := Hi (by rw [HTK.out]; unfold dirK dirE; rw [HD, d0, d1, d2, d3, d4]; rfl)
                               clear HTK HD
                               as_aux_lemma =>
                                 obtain ⟨W3, hW3, ht3, hB3⟩ := text_R ht2 (s.extract a j)
                                 have hB13 := HB2.out.trans hB3
                                 have v0 := cells_at ht3 0 _ rfl
                                 have v1 := cells_at ht3 1 _ rfl
                                 have v2 := cells_at ht3 2 _ rfl
                                 obtain ⟨W4, hW4, hc4, hB4⟩ := row_R W3 5 (s.extract a j) a
                                 have hB14 := hB13.trans (hB4.mono hB13.size)
                                 have hsz4 := hB14.size
                                 have hsz0 := HI.out.below.size
                                 have hln := HI.out.len
                                 obtain ⟨i0, hi⟩ := info_parts infoR
                                 have HIF := Hi hi
                                 have HRW := Hi (own_growR HI.out.row hB14)
                                 have HB14 := Hi hB14
                                 have HC4 := Hi hc4
                                 clear ht2 ht3 hB3 hB13 hc4 hB4 hB14 hi
                                 go_wp2_with (first | (go_at_call 144; refine (rblank_any _ _).mono ?_; rintro e w2 ⟨rfl, rfl⟩) | (go_at_call 145; refine (rletter_any _ _).mono ?_; rintro e w2 ⟨rfl, rfl⟩) | (go_at_call 146; refine (rdigit3_any _ _).mono ?_; rintro e w2 ⟨rfl, rfl⟩) | (at_builtin; go_loud (refine wpList_append_own _ rfl _ _ 104 rfl w.heap.size 153 i0 _ 3 32 Tryz.underlying104 HIF.out.1 HIF.out.2.1 HIF.out.2.2.1 HIF.out.2.2.2 rfl (by decide) _ _ _ rfl HRW.out ⟨_, 0, none⟩ 1 1 [.int .i64 5, .string (s.extract a j), .int .i64 a] rfl rfl ?c1 ?c2 ?c3 ?c4 ?c5 ?_)))
                                 case c1 =>
                                   intro jj u hu
                                   rcases jj with _ | _ | _ | jj
                                   · cases hu; exact cells_at HC4.out 0 _ rfl
                                   · cases hu; exact cells_at HC4.out 1 _ rfl
                                   · cases hu; exact cells_at HC4.out 2 _ rfl
                                   · simp at hu
                                 case c2 => simp [Value.oneCell']
                                 case c3 => have := HS.out; unfold maxLen; omega
                                 case c4 => have := HS.out; omega
                                 case c5 => omega
                                 intro v6 w6 hO6 hg6 _
                                 have hB6 : Below w.heap.size w w6 := (HI.out.below.trans (HB14.out.mono HI.out.below.size)).grown hg6 (by omega) (fun k e => by have := (HRW.out.lt k e).1; omega)
                                 have hO6' : w6.ownsRow w.heap.size 153 3 v6 (acc ++ [tokAt s a]).length (cellsR (acc ++ [tokAt s a])) := by
                                   rw [HT.out, cellsR_append, List.length_append]
                                   exact hO6
                                 have HI6 : Hid (RInv s w (acc ++ [tokAt s a]) j v6 w6) := Hi ⟨hj, by rw [HI.out.good hlt H17.out (by rw [HT.out]), HN.out], fun x hx => by
                                   rcases List.mem_append.1 hx with h | h
                                   · exact HI.out.ok x h
                                   · simp at h; rw [h, HT.out], hO6', hB6⟩
                                 clear hO6 hO6' hg6 hB6
                                 go_wp2_with fail
                                 go_roundw
                                 case rel => exact ⟨acc ++ [tokAt s a], j, _, rfl, rfl, HI6.out⟩
                                 case measure => simp [intOf]; omega
                           · have HT : Hid (tokAt s a = ⟨5, s.extract a j, a, 0⟩) := Hi (by rw [HTK.out]; unfold dirK dirE; rw [HD, d0, d1, d2, d3]; rfl)
                             clear HTK HD
                             as_aux_lemma =>
                               obtain ⟨W3, hW3, ht3, hB3⟩ := text_R ht2 (s.extract a j)
                               have hB13 := HB2.out.trans hB3
                               have v0 := cells_at ht3 0 _ rfl
                               have v1 := cells_at ht3 1 _ rfl
                               have v2 := cells_at ht3 2 _ rfl
                               obtain ⟨W4, hW4, hc4, hB4⟩ := row_R W3 5 (s.extract a j) a
                               have hB14 := hB13.trans (hB4.mono hB13.size)
                               have hsz4 := hB14.size
                               have hsz0 := HI.out.below.size
                               have hln := HI.out.len
                               obtain ⟨i0, hi⟩ := info_parts infoR
                               have HIF := Hi hi
                               have HRW := Hi (own_growR HI.out.row hB14)
                               have HB14 := Hi hB14
                               have HC4 := Hi hc4
                               clear ht2 ht3 hB3 hB13 hc4 hB4 hB14 hi
                               go_wp2_with (first | (go_at_call 144; refine (rblank_any _ _).mono ?_; rintro e w2 ⟨rfl, rfl⟩) | (go_at_call 145; refine (rletter_any _ _).mono ?_; rintro e w2 ⟨rfl, rfl⟩) | (go_at_call 146; refine (rdigit3_any _ _).mono ?_; rintro e w2 ⟨rfl, rfl⟩) | (at_builtin; go_loud (refine wpList_append_own _ rfl _ _ 104 rfl w.heap.size 153 i0 _ 3 32 Tryz.underlying104 HIF.out.1 HIF.out.2.1 HIF.out.2.2.1 HIF.out.2.2.2 rfl (by decide) _ _ _ rfl HRW.out ⟨_, 0, none⟩ 1 1 [.int .i64 5, .string (s.extract a j), .int .i64 a] rfl rfl ?c1 ?c2 ?c3 ?c4 ?c5 ?_)))
                               case c1 =>
                                 intro jj u hu
                                 rcases jj with _ | _ | _ | jj
                                 · cases hu; exact cells_at HC4.out 0 _ rfl
                                 · cases hu; exact cells_at HC4.out 1 _ rfl
                                 · cases hu; exact cells_at HC4.out 2 _ rfl
                                 · simp at hu
                               case c2 => simp [Value.oneCell']
                               case c3 => have := HS.out; unfold maxLen; omega
                               case c4 => have := HS.out; omega
                               case c5 => omega
                               intro v6 w6 hO6 hg6 _
                               have hB6 : Below w.heap.size w w6 := (HI.out.below.trans (HB14.out.mono HI.out.below.size)).grown hg6 (by omega) (fun k e => by have := (HRW.out.lt k e).1; omega)
                               have hO6' : w6.ownsRow w.heap.size 153 3 v6 (acc ++ [tokAt s a]).length (cellsR (acc ++ [tokAt s a])) := by
                                 rw [HT.out, cellsR_append, List.length_append]
                                 exact hO6
                               have HI6 : Hid (RInv s w (acc ++ [tokAt s a]) j v6 w6) := Hi ⟨hj, by rw [HI.out.good hlt H17.out (by rw [HT.out]), HN.out], fun x hx => by
                                 rcases List.mem_append.1 hx with h | h
                                 · exact HI.out.ok x h
                                 · simp at h; rw [h, HT.out], hO6', hB6⟩
                               clear hO6 hO6' hg6 hB6
                               go_wp2_with fail
                               go_roundw
                               case rel => exact ⟨acc ++ [tokAt s a], j, _, rfl, rfl, HI6.out⟩
                               case measure => simp [intOf]; omega
                         · have HT : Hid (tokAt s a = ⟨5, s.extract a j, a, 0⟩) := Hi (by rw [HTK.out]; unfold dirK dirE; rw [HD, d0, d1, d2]; rfl)
                           clear HTK HD
                           as_aux_lemma =>
                             obtain ⟨W3, hW3, ht3, hB3⟩ := text_R ht2 (s.extract a j)
                             have hB13 := HB2.out.trans hB3
                             have v0 := cells_at ht3 0 _ rfl
                             have v1 := cells_at ht3 1 _ rfl
                             have v2 := cells_at ht3 2 _ rfl
                             obtain ⟨W4, hW4, hc4, hB4⟩ := row_R W3 5 (s.extract a j) a
                             have hB14 := hB13.trans (hB4.mono hB13.size)
                             have hsz4 := hB14.size
                             have hsz0 := HI.out.below.size
                             have hln := HI.out.len
                             obtain ⟨i0, hi⟩ := info_parts infoR
                             have HIF := Hi hi
                             have HRW := Hi (own_growR HI.out.row hB14)
                             have HB14 := Hi hB14
                             have HC4 := Hi hc4
                             clear ht2 ht3 hB3 hB13 hc4 hB4 hB14 hi
                             go_wp2_with (first | (go_at_call 144; refine (rblank_any _ _).mono ?_; rintro e w2 ⟨rfl, rfl⟩) | (go_at_call 145; refine (rletter_any _ _).mono ?_; rintro e w2 ⟨rfl, rfl⟩) | (go_at_call 146; refine (rdigit3_any _ _).mono ?_; rintro e w2 ⟨rfl, rfl⟩) | (at_builtin; go_loud (refine wpList_append_own _ rfl _ _ 104 rfl w.heap.size 153 i0 _ 3 32 Tryz.underlying104 HIF.out.1 HIF.out.2.1 HIF.out.2.2.1 HIF.out.2.2.2 rfl (by decide) _ _ _ rfl HRW.out ⟨_, 0, none⟩ 1 1 [.int .i64 5, .string (s.extract a j), .int .i64 a] rfl rfl ?c1 ?c2 ?c3 ?c4 ?c5 ?_)))
                             case c1 =>
                               intro jj u hu
                               rcases jj with _ | _ | _ | jj
                               · cases hu; exact cells_at HC4.out 0 _ rfl
                               · cases hu; exact cells_at HC4.out 1 _ rfl
                               · cases hu; exact cells_at HC4.out 2 _ rfl
                               · simp at hu
                             case c2 => simp [Value.oneCell']
                             case c3 => have := HS.out; unfold maxLen; omega
                             case c4 => have := HS.out; omega
                             case c5 => omega
                             intro v6 w6 hO6 hg6 _
                             have hB6 : Below w.heap.size w w6 := (HI.out.below.trans (HB14.out.mono HI.out.below.size)).grown hg6 (by omega) (fun k e => by have := (HRW.out.lt k e).1; omega)
                             have hO6' : w6.ownsRow w.heap.size 153 3 v6 (acc ++ [tokAt s a]).length (cellsR (acc ++ [tokAt s a])) := by
                               rw [HT.out, cellsR_append, List.length_append]
                               exact hO6
                             have HI6 : Hid (RInv s w (acc ++ [tokAt s a]) j v6 w6) := Hi ⟨hj, by rw [HI.out.good hlt H17.out (by rw [HT.out]), HN.out], fun x hx => by
                               rcases List.mem_append.1 hx with h | h
                               · exact HI.out.ok x h
                               · simp at h; rw [h, HT.out], hO6', hB6⟩
                             clear hO6 hO6' hg6 hB6
                             go_wp2_with fail
                             go_roundw
                             case rel => exact ⟨acc ++ [tokAt s a], j, _, rfl, rfl, HI6.out⟩
                             case measure => simp [intOf]; omega
                       · have HT : Hid (tokAt s a = ⟨5, s.extract a j, a, 0⟩) := Hi (by rw [HTK.out]; unfold dirK dirE; rw [HD, d0, d1]; rfl)
                         clear HTK HD
                         as_aux_lemma =>
                           obtain ⟨W3, hW3, ht3, hB3⟩ := text_R ht2 (s.extract a j)
                           have hB13 := HB2.out.trans hB3
                           have v0 := cells_at ht3 0 _ rfl
                           have v1 := cells_at ht3 1 _ rfl
                           have v2 := cells_at ht3 2 _ rfl
                           obtain ⟨W4, hW4, hc4, hB4⟩ := row_R W3 5 (s.extract a j) a
                           have hB14 := hB13.trans (hB4.mono hB13.size)
                           have hsz4 := hB14.size
                           have hsz0 := HI.out.below.size
                           have hln := HI.out.len
                           obtain ⟨i0, hi⟩ := info_parts infoR
                           have HIF := Hi hi
                           have HRW := Hi (own_growR HI.out.row hB14)
                           have HB14 := Hi hB14
                           have HC4 := Hi hc4
                           clear ht2 ht3 hB3 hB13 hc4 hB4 hB14 hi
                           go_wp2_with (first | (go_at_call 144; refine (rblank_any _ _).mono ?_; rintro e w2 ⟨rfl, rfl⟩) | (go_at_call 145; refine (rletter_any _ _).mono ?_; rintro e w2 ⟨rfl, rfl⟩) | (go_at_call 146; refine (rdigit3_any _ _).mono ?_; rintro e w2 ⟨rfl, rfl⟩) | (at_builtin; go_loud (refine wpList_append_own _ rfl _ _ 104 rfl w.heap.size 153 i0 _ 3 32 Tryz.underlying104 HIF.out.1 HIF.out.2.1 HIF.out.2.2.1 HIF.out.2.2.2 rfl (by decide) _ _ _ rfl HRW.out ⟨_, 0, none⟩ 1 1 [.int .i64 5, .string (s.extract a j), .int .i64 a] rfl rfl ?c1 ?c2 ?c3 ?c4 ?c5 ?_)))
                           case c1 =>
                             intro jj u hu
                             rcases jj with _ | _ | _ | jj
                             · cases hu; exact cells_at HC4.out 0 _ rfl
                             · cases hu; exact cells_at HC4.out 1 _ rfl
                             · cases hu; exact cells_at HC4.out 2 _ rfl
                             · simp at hu
                           case c2 => simp [Value.oneCell']
                           case c3 => have := HS.out; unfold maxLen; omega
                           case c4 => have := HS.out; omega
                           case c5 => omega
                           intro v6 w6 hO6 hg6 _
                           have hB6 : Below w.heap.size w w6 := (HI.out.below.trans (HB14.out.mono HI.out.below.size)).grown hg6 (by omega) (fun k e => by have := (HRW.out.lt k e).1; omega)
                           have hO6' : w6.ownsRow w.heap.size 153 3 v6 (acc ++ [tokAt s a]).length (cellsR (acc ++ [tokAt s a])) := by
                             rw [HT.out, cellsR_append, List.length_append]
                             exact hO6
                           have HI6 : Hid (RInv s w (acc ++ [tokAt s a]) j v6 w6) := Hi ⟨hj, by rw [HI.out.good hlt H17.out (by rw [HT.out]), HN.out], fun x hx => by
                             rcases List.mem_append.1 hx with h | h
                             · exact HI.out.ok x h
                             · simp at h; rw [h, HT.out], hO6', hB6⟩
                           clear hO6 hO6' hg6 hB6
                           go_wp2_with fail
                           go_roundw
                           case rel => exact ⟨acc ++ [tokAt s a], j, _, rfl, rfl, HI6.out⟩
                           case measure => simp [intOf]; omega
                     · have HT : Hid (tokAt s a = ⟨5, s.extract a j, a, 0⟩) := Hi (by rw [HTK.out]; unfold dirK dirE; rw [HD, d0]; rfl)
                       clear HTK HD
                       as_aux_lemma =>
                         obtain ⟨W3, hW3, ht3, hB3⟩ := text_R ht2 (s.extract a j)
                         have hB13 := HB2.out.trans hB3
                         have v0 := cells_at ht3 0 _ rfl
                         have v1 := cells_at ht3 1 _ rfl
                         have v2 := cells_at ht3 2 _ rfl
                         obtain ⟨W4, hW4, hc4, hB4⟩ := row_R W3 5 (s.extract a j) a
                         have hB14 := hB13.trans (hB4.mono hB13.size)
                         have hsz4 := hB14.size
                         have hsz0 := HI.out.below.size
                         have hln := HI.out.len
                         obtain ⟨i0, hi⟩ := info_parts infoR
                         have HIF := Hi hi
                         have HRW := Hi (own_growR HI.out.row hB14)
                         have HB14 := Hi hB14
                         have HC4 := Hi hc4
                         clear ht2 ht3 hB3 hB13 hc4 hB4 hB14 hi
                         go_wp2_with (first | (go_at_call 144; refine (rblank_any _ _).mono ?_; rintro e w2 ⟨rfl, rfl⟩) | (go_at_call 145; refine (rletter_any _ _).mono ?_; rintro e w2 ⟨rfl, rfl⟩) | (go_at_call 146; refine (rdigit3_any _ _).mono ?_; rintro e w2 ⟨rfl, rfl⟩) | (at_builtin; go_loud (refine wpList_append_own _ rfl _ _ 104 rfl w.heap.size 153 i0 _ 3 32 Tryz.underlying104 HIF.out.1 HIF.out.2.1 HIF.out.2.2.1 HIF.out.2.2.2 rfl (by decide) _ _ _ rfl HRW.out ⟨_, 0, none⟩ 1 1 [.int .i64 5, .string (s.extract a j), .int .i64 a] rfl rfl ?c1 ?c2 ?c3 ?c4 ?c5 ?_)))
                         case c1 =>
                           intro jj u hu
                           rcases jj with _ | _ | _ | jj
                           · cases hu; exact cells_at HC4.out 0 _ rfl
                           · cases hu; exact cells_at HC4.out 1 _ rfl
                           · cases hu; exact cells_at HC4.out 2 _ rfl
                           · simp at hu
                         case c2 => simp [Value.oneCell']
                         case c3 => have := HS.out; unfold maxLen; omega
                         case c4 => have := HS.out; omega
                         case c5 => omega
                         intro v6 w6 hO6 hg6 _
                         have hB6 : Below w.heap.size w w6 := (HI.out.below.trans (HB14.out.mono HI.out.below.size)).grown hg6 (by omega) (fun k e => by have := (HRW.out.lt k e).1; omega)
                         have hO6' : w6.ownsRow w.heap.size 153 3 v6 (acc ++ [tokAt s a]).length (cellsR (acc ++ [tokAt s a])) := by
                           rw [HT.out, cellsR_append, List.length_append]
                           exact hO6
                         have HI6 : Hid (RInv s w (acc ++ [tokAt s a]) j v6 w6) := Hi ⟨hj, by rw [HI.out.good hlt H17.out (by rw [HT.out]), HN.out], fun x hx => by
                           rcases List.mem_append.1 hx with h | h
                           · exact HI.out.ok x h
                           · simp at h; rw [h, HT.out], hO6', hB6⟩
                         clear hO6 hO6' hg6 hB6
                         go_wp2_with fail
                         go_roundw
                         case rel => exact ⟨acc ++ [tokAt s a], j, _, rfl, rfl, HI6.out⟩
                         case measure => simp [intOf]; omega
             · have hb4 : begB (inB 4) s a = true := by rw [beg_at hlt]; exact q4
               go_wp2_with (first | (go_at_call 144; refine (rblank_any _ _).mono ?_; rintro e w2 ⟨rfl, rfl⟩) | (go_at_call 145; refine (rletter_any _ _).mono ?_; rintro e w2 ⟨rfl, rfl⟩) | (go_at_call 146; refine (rdigit3_any _ _).mono ?_; rintro e w2 ⟨rfl, rfl⟩))
               go_loop [7] (fun i => ∃ j : Nat, a + 1 ≤ j ∧ j ≤ s.size ∧ i = .int .i64 j ∧ runN (inB 4) s j = runN (inB 4) s (a + 1)) (fun i => s.size - (intOf i).toNat)
               case atStart => exact ⟨a + 1, Nat.le_refl _, by omega, rfl, rfl⟩
               case round =>
                 obtain ⟨j, haj, hj, rfl, hr⟩ := hrel
                 have HR := Hi hr
                 clear hr
                 by_cases hlj : j < s.size
                 · cases p2 : inB 4 (s[j].toNat : Int)
                   · have hje := runN_stop (p := inB 4) (s := s) (a := j) (by rw [beg_at hlj]; exact p2)
                     have hjr : j = runN (inB 4) s a := (hje.symm.trans HR.out).trans (runN_step hb4)
                     have hda := ext_all (p := inB 4) (s := s) (a := a)
                     have hps := ext_pos (p := inB 4) (s := s) HM.out hb4
                     rw [← hjr] at hda hps
                     have htn : tokN s a = j := by
                       unfold tokN
                       simp only [hb10, hb4, reduceIte, Bool.false_eq_true]
                       exact hjr.symm
                     have htk : tokAt s a = ⟨numK (s.extract a j), s.extract a j, a, numE (s.extract a j)⟩ := by
                       unfold tokAt
                       rw [htn]
                       unfold tkK tkE
                       simp only [hb10, hb4, reduceIte, Bool.false_eq_true]
                     have HNM := Hi (fun w => rnumber_any (s.extract a j) w (ext_le s _ _ HM.out) hps hda)
                     have HTK := Hi htk
                     have HN := Hi htn
                     clear hje hjr hda hps htk htn
                     have hgt : a < j := by omega

                     obtain ⟨W2, hW2, ht2, hB2⟩ := kind_R HT1.out (3)
                     have HB2 := Hi (HB1.out.trans (hB2.mono (by omega)))
                     have u0 := cells_at ht2 0 _ rfl
                     have u1 := cells_at ht2 1 _ rfl
                     have f1 := ht2.f
                     have HBW := HB2
                     clear hB2
                     cases hb : numB (s.extract a j)
                     · have HT : Hid (tokAt s a = ⟨numK (s.extract a j), s.extract a j, a, 32⟩) := Hi (by rw [HTK.out, bad_num hb])
                       rw [hb] at HNM
                       clear HTK ht2 hb
                       go_wp2_with (first | (go_at_call 144; refine (rblank_any _ _).mono ?_; rintro e w2 ⟨rfl, rfl⟩) | (go_at_call 145; refine (rletter_any _ _).mono ?_; rintro e w2 ⟨rfl, rfl⟩) | (go_at_call 146; refine (rdigit3_any _ _).mono ?_; rintro e w2 ⟨rfl, rfl⟩) | (go_at_call 148; refine (HNM.out _).mono ?_; rintro e w2 ⟨rfl, rfl⟩))
                       refine bodyPost_ret (v := .tuple #[.slice none 0 0, .int .i64 a, .int .i64 32]) (by simp [results, Tryz.results106, go_sem]) rfl ?_
                       refine ⟨HI.out.below.trans (HBW.out.mono HI.out.below.size), ?_⟩
                       rw [HI.out.bad hlt H17.out (by rw [HT.out]; show (32 : Int) ≠ 0; decide)]
                       show _ = Ending.returned (.tuple #[.slice none 0 0, .int .i64 (tokAt s a).a, .int .i64 (tokAt s a).e])
                       rw [HT.out]
                     · have HT : Hid (tokAt s a = ⟨3, s.extract a j, a, 0⟩) := Hi (by rw [HTK.out, (good_num hb).1, (good_num hb).2])
                       rw [hb] at HNM
                       clear HTK hb
                       as_aux_lemma =>
                         obtain ⟨W3, hW3, ht3, hB3⟩ := text_R ht2 (s.extract a j)
                         have hB13 := HB2.out.trans hB3
                         have v0 := cells_at ht3 0 _ rfl
                         have v1 := cells_at ht3 1 _ rfl
                         have v2 := cells_at ht3 2 _ rfl
                         obtain ⟨W4, hW4, hc4, hB4⟩ := row_R W3 3 (s.extract a j) a
                         have hB14 := hB13.trans (hB4.mono hB13.size)
                         have hsz4 := hB14.size
                         have hsz0 := HI.out.below.size
                         have hln := HI.out.len
                         obtain ⟨i0, hi⟩ := info_parts infoR
                         have HIF := Hi hi
                         have HRW := Hi (own_growR HI.out.row hB14)
                         have HB14 := Hi hB14
                         have HC4 := Hi hc4
                         clear ht2 ht3 hB3 hB13 hc4 hB4 hB14 hi
                         go_wp2_with (first | (go_at_call 144; refine (rblank_any _ _).mono ?_; rintro e w2 ⟨rfl, rfl⟩) | (go_at_call 145; refine (rletter_any _ _).mono ?_; rintro e w2 ⟨rfl, rfl⟩) | (go_at_call 146; refine (rdigit3_any _ _).mono ?_; rintro e w2 ⟨rfl, rfl⟩) | (go_at_call 148; refine (HNM.out _).mono ?_; rintro e w2 ⟨rfl, rfl⟩) | (at_builtin; go_loud (refine wpList_append_own _ rfl _ _ 104 rfl w.heap.size 153 i0 _ 3 32 Tryz.underlying104 HIF.out.1 HIF.out.2.1 HIF.out.2.2.1 HIF.out.2.2.2 rfl (by decide) _ _ _ rfl HRW.out ⟨_, 0, none⟩ 1 1 [.int .i64 3, .string (s.extract a j), .int .i64 a] rfl rfl ?c1 ?c2 ?c3 ?c4 ?c5 ?_)))
                         case c1 =>
                           intro jj u hu
                           rcases jj with _ | _ | _ | jj
                           · cases hu; exact cells_at HC4.out 0 _ rfl
                           · cases hu; exact cells_at HC4.out 1 _ rfl
                           · cases hu; exact cells_at HC4.out 2 _ rfl
                           · simp at hu
                         case c2 => simp [Value.oneCell']
                         case c3 => have := HS.out; unfold maxLen; omega
                         case c4 => have := HS.out; omega
                         case c5 => omega
                         intro v6 w6 hO6 hg6 _
                         have hB6 : Below w.heap.size w w6 := (HI.out.below.trans (HB14.out.mono HI.out.below.size)).grown hg6 (by omega) (fun k e => by have := (HRW.out.lt k e).1; omega)
                         have hO6' : w6.ownsRow w.heap.size 153 3 v6 (acc ++ [tokAt s a]).length (cellsR (acc ++ [tokAt s a])) := by
                           rw [HT.out, cellsR_append, List.length_append]
                           exact hO6
                         have HI6 : Hid (RInv s w (acc ++ [tokAt s a]) j v6 w6) := Hi ⟨hj, by rw [HI.out.good hlt H17.out (by rw [HT.out]), HN.out], fun x hx => by
                           rcases List.mem_append.1 hx with h | h
                           · exact HI.out.ok x h
                           · simp at h; rw [h, HT.out], hO6', hB6⟩
                         clear hO6 hO6' hg6 hB6
                         go_wp2_with fail
                         go_roundw
                         case rel => exact ⟨acc ++ [tokAt s a], j, _, rfl, rfl, HI6.out⟩
                         case measure => simp [intOf]; omega
                   · go_wp2_with (first | (go_at_call 144; refine (rblank_any _ _).mono ?_; rintro e w2 ⟨rfl, rfl⟩) | (go_at_call 145; refine (rletter_any _ _).mono ?_; rintro e w2 ⟨rfl, rfl⟩) | (go_at_call 146; refine (rdigit3_any _ _).mono ?_; rintro e w2 ⟨rfl, rfl⟩))
                     go_round
                     case rel => exact ⟨j + 1, by omega, by omega, by go_num, by rw [runN_step (by rw [beg_at hlj]; exact p2)]; exact HR.out⟩
                     case measure => simp [intOf]; omega
                 · have hje := runN_stop (p := inB 4) (s := s) (a := j) (by unfold begB; rw [dif_neg hlj])
                   have hjr : j = runN (inB 4) s a := (hje.symm.trans HR.out).trans (runN_step hb4)
                   have hda := ext_all (p := inB 4) (s := s) (a := a)
                   have hps := ext_pos (p := inB 4) (s := s) HM.out hb4
                   rw [← hjr] at hda hps
                   have htn : tokN s a = j := by
                     unfold tokN
                     simp only [hb10, hb4, reduceIte, Bool.false_eq_true]
                     exact hjr.symm
                   have htk : tokAt s a = ⟨numK (s.extract a j), s.extract a j, a, numE (s.extract a j)⟩ := by
                     unfold tokAt
                     rw [htn]
                     unfold tkK tkE
                     simp only [hb10, hb4, reduceIte, Bool.false_eq_true]
                   have HNM := Hi (fun w => rnumber_any (s.extract a j) w (ext_le s _ _ HM.out) hps hda)
                   have HTK := Hi htk
                   have HN := Hi htn
                   clear hje hjr hda hps htk htn
                   have hgt : a < j := by omega

                   obtain ⟨W2, hW2, ht2, hB2⟩ := kind_R HT1.out (3)
                   have HB2 := Hi (HB1.out.trans (hB2.mono (by omega)))
                   have u0 := cells_at ht2 0 _ rfl
                   have u1 := cells_at ht2 1 _ rfl
                   have f1 := ht2.f
                   have HBW := HB2
                   clear hB2
                   cases hb : numB (s.extract a j)
                   · have HT : Hid (tokAt s a = ⟨numK (s.extract a j), s.extract a j, a, 32⟩) := Hi (by rw [HTK.out, bad_num hb])
                     rw [hb] at HNM
                     clear HTK ht2 hb
                     go_wp2_with (first | (go_at_call 144; refine (rblank_any _ _).mono ?_; rintro e w2 ⟨rfl, rfl⟩) | (go_at_call 145; refine (rletter_any _ _).mono ?_; rintro e w2 ⟨rfl, rfl⟩) | (go_at_call 146; refine (rdigit3_any _ _).mono ?_; rintro e w2 ⟨rfl, rfl⟩) | (go_at_call 148; refine (HNM.out _).mono ?_; rintro e w2 ⟨rfl, rfl⟩))
                     refine bodyPost_ret (v := .tuple #[.slice none 0 0, .int .i64 a, .int .i64 32]) (by simp [results, Tryz.results106, go_sem]) rfl ?_
                     refine ⟨HI.out.below.trans (HBW.out.mono HI.out.below.size), ?_⟩
                     rw [HI.out.bad hlt H17.out (by rw [HT.out]; show (32 : Int) ≠ 0; decide)]
                     show _ = Ending.returned (.tuple #[.slice none 0 0, .int .i64 (tokAt s a).a, .int .i64 (tokAt s a).e])
                     rw [HT.out]
                   · have HT : Hid (tokAt s a = ⟨3, s.extract a j, a, 0⟩) := Hi (by rw [HTK.out, (good_num hb).1, (good_num hb).2])
                     rw [hb] at HNM
                     clear HTK hb
                     as_aux_lemma =>
                       obtain ⟨W3, hW3, ht3, hB3⟩ := text_R ht2 (s.extract a j)
                       have hB13 := HB2.out.trans hB3
                       have v0 := cells_at ht3 0 _ rfl
                       have v1 := cells_at ht3 1 _ rfl
                       have v2 := cells_at ht3 2 _ rfl
                       obtain ⟨W4, hW4, hc4, hB4⟩ := row_R W3 3 (s.extract a j) a
                       have hB14 := hB13.trans (hB4.mono hB13.size)
                       have hsz4 := hB14.size
                       have hsz0 := HI.out.below.size
                       have hln := HI.out.len
                       obtain ⟨i0, hi⟩ := info_parts infoR
                       have HIF := Hi hi
                       have HRW := Hi (own_growR HI.out.row hB14)
                       have HB14 := Hi hB14
                       have HC4 := Hi hc4
                       clear ht2 ht3 hB3 hB13 hc4 hB4 hB14 hi
                       go_wp2_with (first | (go_at_call 144; refine (rblank_any _ _).mono ?_; rintro e w2 ⟨rfl, rfl⟩) | (go_at_call 145; refine (rletter_any _ _).mono ?_; rintro e w2 ⟨rfl, rfl⟩) | (go_at_call 146; refine (rdigit3_any _ _).mono ?_; rintro e w2 ⟨rfl, rfl⟩) | (go_at_call 148; refine (HNM.out _).mono ?_; rintro e w2 ⟨rfl, rfl⟩) | (at_builtin; go_loud (refine wpList_append_own _ rfl _ _ 104 rfl w.heap.size 153 i0 _ 3 32 Tryz.underlying104 HIF.out.1 HIF.out.2.1 HIF.out.2.2.1 HIF.out.2.2.2 rfl (by decide) _ _ _ rfl HRW.out ⟨_, 0, none⟩ 1 1 [.int .i64 3, .string (s.extract a j), .int .i64 a] rfl rfl ?c1 ?c2 ?c3 ?c4 ?c5 ?_)))
                       case c1 =>
                         intro jj u hu
                         rcases jj with _ | _ | _ | jj
                         · cases hu; exact cells_at HC4.out 0 _ rfl
                         · cases hu; exact cells_at HC4.out 1 _ rfl
                         · cases hu; exact cells_at HC4.out 2 _ rfl
                         · simp at hu
                       case c2 => simp [Value.oneCell']
                       case c3 => have := HS.out; unfold maxLen; omega
                       case c4 => have := HS.out; omega
                       case c5 => omega
                       intro v6 w6 hO6 hg6 _
                       have hB6 : Below w.heap.size w w6 := (HI.out.below.trans (HB14.out.mono HI.out.below.size)).grown hg6 (by omega) (fun k e => by have := (HRW.out.lt k e).1; omega)
                       have hO6' : w6.ownsRow w.heap.size 153 3 v6 (acc ++ [tokAt s a]).length (cellsR (acc ++ [tokAt s a])) := by
                         rw [HT.out, cellsR_append, List.length_append]
                         exact hO6
                       have HI6 : Hid (RInv s w (acc ++ [tokAt s a]) j v6 w6) := Hi ⟨hj, by rw [HI.out.good hlt H17.out (by rw [HT.out]), HN.out], fun x hx => by
                         rcases List.mem_append.1 hx with h | h
                         · exact HI.out.ok x h
                         · simp at h; rw [h, HT.out], hO6', hB6⟩
                       clear hO6 hO6' hg6 hB6
                       go_wp2_with fail
                       go_roundw
                       case rel => exact ⟨acc ++ [tokAt s a], j, _, rfl, rfl, HI6.out⟩
                       case measure => simp [intOf]; omega
           · have hb10 : begB (inB 10) s a = true := by rw [beg_at hlt, inB10, q2, inB8, q95]; rfl
             go_wp2_with (first | (go_at_call 144; refine (rblank_any _ _).mono ?_; rintro e w2 ⟨rfl, rfl⟩) | (go_at_call 145; refine (rletter_any _ _).mono ?_; rintro e w2 ⟨rfl, rfl⟩) | (go_at_call 146; refine (rdigit3_any _ _).mono ?_; rintro e w2 ⟨rfl, rfl⟩))
             go_loop [7] (fun i => ∃ j : Nat, a + 1 ≤ j ∧ j ≤ s.size ∧ i = .int .i64 j ∧ runN (inB 14) s j = runN (inB 14) s (a + 1)) (fun i => s.size - (intOf i).toNat)
             case atStart => exact ⟨a + 1, Nat.le_refl _, by omega, rfl, rfl⟩
             case round =>
               obtain ⟨j, haj, hj, rfl, hr⟩ := hrel
               have HR := Hi hr
               clear hr
               by_cases hlj : j < s.size
               · cases p2 : inB 2 (s[j].toNat : Int)
                 · cases p4 : inB 4 (s[j].toNat : Int)
                   · cases p95 : ((s[j].toNat : Int) == 95)
                     · have hje := runN_stop (p := inB 14) (s := s) (a := j) (by rw [beg_at hlj, inB14, p2, p4, inB8, p95]; rfl)
                       have hjr : j = runN (inB 14) s a := (hje.symm.trans HR.out).trans (runN_step (beg10_14 hb10))
                       have htn : tokN s a = j := by
                         unfold tokN
                         simp only [hb10, reduceIte]
                         exact hjr.symm
                       have htk : tokAt s a = ⟨wordK (s.extract a j), s.extract a j, a, wordE (s.extract a j)⟩ := by
                         unfold tokAt
                         rw [htn]
                         unfold tkK tkE
                         simp only [hb10, reduceIte]
                       have HWD := Hi (fun w => rword3_any (s.extract a j) w (ext_le s _ _ HM.out))
                       have HWZ := Hi (@word_zero (s.extract a j))
                       have HWG := Hi (@word_good (s.extract a j))
                       have HTK := Hi htk
                       have HN := Hi htn
                       generalize hK : wordK (s.extract a j) = K at HWD HWZ HWG HTK
                       clear hje hjr htk htn hK
                       have hgt : a < j := by omega

                       obtain ⟨W2, hW2, ht2, hB2⟩ := kind_R HT1.out (K)
                       have HB2 := Hi (HB1.out.trans (hB2.mono (by omega)))
                       have u0 := cells_at ht2 0 _ rfl
                       have u1 := cells_at ht2 1 _ rfl
                       have f1 := ht2.f
                       have HBW := HB2
                       clear hB2
                       by_cases hK0 : K = 0
                       · subst hK0
                         have HT : Hid (tokAt s a = ⟨0, s.extract a j, a, 31⟩) := Hi (by rw [HTK.out, HWZ.out rfl])
                         clear HTK HWZ HWG ht2
                         go_wp2_with (first | (go_at_call 144; refine (rblank_any _ _).mono ?_; rintro e w2 ⟨rfl, rfl⟩) | (go_at_call 145; refine (rletter_any _ _).mono ?_; rintro e w2 ⟨rfl, rfl⟩) | (go_at_call 146; refine (rdigit3_any _ _).mono ?_; rintro e w2 ⟨rfl, rfl⟩) | (go_at_call 147; refine (HWD.out _).mono ?_; rintro e w2 ⟨rfl, rfl⟩))
                         refine bodyPost_ret (v := .tuple #[.slice none 0 0, .int .i64 a, .int .i64 31]) (by simp [results, Tryz.results106, go_sem]) rfl ?_
                         refine ⟨HI.out.below.trans (HBW.out.mono HI.out.below.size), ?_⟩
                         rw [HI.out.bad hlt H17.out (by rw [HT.out]; show (31 : Int) ≠ 0; decide)]
                         show _ = Ending.returned (.tuple #[.slice none 0 0, .int .i64 (tokAt s a).a, .int .i64 (tokAt s a).e])
                         rw [HT.out]
                       · have HT : Hid (tokAt s a = ⟨K, s.extract a j, a, 0⟩) := Hi (by rw [HTK.out, HWG.out hK0])
                         have e0 : (K == 0) = false := by simpa using hK0
                         clear HTK HWZ HWG hK0
                         as_aux_lemma =>
                           obtain ⟨W3, hW3, ht3, hB3⟩ := text_R ht2 (s.extract a j)
                           have hB13 := HB2.out.trans hB3
                           have v0 := cells_at ht3 0 _ rfl
                           have v1 := cells_at ht3 1 _ rfl
                           have v2 := cells_at ht3 2 _ rfl
                           obtain ⟨W4, hW4, hc4, hB4⟩ := row_R W3 K (s.extract a j) a
                           have hB14 := hB13.trans (hB4.mono hB13.size)
                           have hsz4 := hB14.size
                           have hsz0 := HI.out.below.size
                           have hln := HI.out.len
                           obtain ⟨i0, hi⟩ := info_parts infoR
                           have HIF := Hi hi
                           have HRW := Hi (own_growR HI.out.row hB14)
                           have HB14 := Hi hB14
                           have HC4 := Hi hc4
                           clear ht2 ht3 hB3 hB13 hc4 hB4 hB14 hi
                           go_wp2_with (first | (go_at_call 144; refine (rblank_any _ _).mono ?_; rintro e w2 ⟨rfl, rfl⟩) | (go_at_call 145; refine (rletter_any _ _).mono ?_; rintro e w2 ⟨rfl, rfl⟩) | (go_at_call 146; refine (rdigit3_any _ _).mono ?_; rintro e w2 ⟨rfl, rfl⟩) | (go_at_call 147; refine (HWD.out _).mono ?_; rintro e w2 ⟨rfl, rfl⟩) | (at_builtin; go_loud (refine wpList_append_own _ rfl _ _ 104 rfl w.heap.size 153 i0 _ 3 32 Tryz.underlying104 HIF.out.1 HIF.out.2.1 HIF.out.2.2.1 HIF.out.2.2.2 rfl (by decide) _ _ _ rfl HRW.out ⟨_, 0, none⟩ 1 1 [.int .i64 K, .string (s.extract a j), .int .i64 a] rfl rfl ?c1 ?c2 ?c3 ?c4 ?c5 ?_)))
                           case c1 =>
                             intro jj u hu
                             rcases jj with _ | _ | _ | jj
                             · cases hu; exact cells_at HC4.out 0 _ rfl
                             · cases hu; exact cells_at HC4.out 1 _ rfl
                             · cases hu; exact cells_at HC4.out 2 _ rfl
                             · simp at hu
                           case c2 => simp [Value.oneCell']
                           case c3 => have := HS.out; unfold maxLen; omega
                           case c4 => have := HS.out; omega
                           case c5 => omega
                           intro v6 w6 hO6 hg6 _
                           have hB6 : Below w.heap.size w w6 := (HI.out.below.trans (HB14.out.mono HI.out.below.size)).grown hg6 (by omega) (fun k e => by have := (HRW.out.lt k e).1; omega)
                           have hO6' : w6.ownsRow w.heap.size 153 3 v6 (acc ++ [tokAt s a]).length (cellsR (acc ++ [tokAt s a])) := by
                             rw [HT.out, cellsR_append, List.length_append]
                             exact hO6
                           have HI6 : Hid (RInv s w (acc ++ [tokAt s a]) j v6 w6) := Hi ⟨hj, by rw [HI.out.good hlt H17.out (by rw [HT.out]), HN.out], fun x hx => by
                             rcases List.mem_append.1 hx with h | h
                             · exact HI.out.ok x h
                             · simp at h; rw [h, HT.out], hO6', hB6⟩
                           clear hO6 hO6' hg6 hB6
                           go_wp2_with fail
                           go_roundw
                           case rel => exact ⟨acc ++ [tokAt s a], j, _, rfl, rfl, HI6.out⟩
                           case measure => simp [intOf]; omega
                     · go_wp2_with (first | (go_at_call 144; refine (rblank_any _ _).mono ?_; rintro e w2 ⟨rfl, rfl⟩) | (go_at_call 145; refine (rletter_any _ _).mono ?_; rintro e w2 ⟨rfl, rfl⟩) | (go_at_call 146; refine (rdigit3_any _ _).mono ?_; rintro e w2 ⟨rfl, rfl⟩))
                       go_round
                       case rel => exact ⟨j + 1, by omega, by omega, by go_num, by rw [runN_step (by rw [beg_at hlj, inB14, p2, p4, inB8, p95]; rfl)]; exact HR.out⟩
                       case measure => simp [intOf]; omega
                   · go_wp2_with (first | (go_at_call 144; refine (rblank_any _ _).mono ?_; rintro e w2 ⟨rfl, rfl⟩) | (go_at_call 145; refine (rletter_any _ _).mono ?_; rintro e w2 ⟨rfl, rfl⟩) | (go_at_call 146; refine (rdigit3_any _ _).mono ?_; rintro e w2 ⟨rfl, rfl⟩))
                     go_round
                     case rel => exact ⟨j + 1, by omega, by omega, by go_num, by rw [runN_step (by rw [beg_at hlj, inB14, p2, p4]; rfl)]; exact HR.out⟩
                     case measure => simp [intOf]; omega
                 · go_wp2_with (first | (go_at_call 144; refine (rblank_any _ _).mono ?_; rintro e w2 ⟨rfl, rfl⟩) | (go_at_call 145; refine (rletter_any _ _).mono ?_; rintro e w2 ⟨rfl, rfl⟩) | (go_at_call 146; refine (rdigit3_any _ _).mono ?_; rintro e w2 ⟨rfl, rfl⟩))
                   go_round
                   case rel => exact ⟨j + 1, by omega, by omega, by go_num, by rw [runN_step (by rw [beg_at hlj, inB14, p2]; rfl)]; exact HR.out⟩
                   case measure => simp [intOf]; omega
               · have hje := runN_stop (p := inB 14) (s := s) (a := j) (by unfold begB; rw [dif_neg hlj])
                 have hjr : j = runN (inB 14) s a := (hje.symm.trans HR.out).trans (runN_step (beg10_14 hb10))
                 have htn : tokN s a = j := by
                   unfold tokN
                   simp only [hb10, reduceIte]
                   exact hjr.symm
                 have htk : tokAt s a = ⟨wordK (s.extract a j), s.extract a j, a, wordE (s.extract a j)⟩ := by
                   unfold tokAt
                   rw [htn]
                   unfold tkK tkE
                   simp only [hb10, reduceIte]
                 have HWD := Hi (fun w => rword3_any (s.extract a j) w (ext_le s _ _ HM.out))
                 have HWZ := Hi (@word_zero (s.extract a j))
                 have HWG := Hi (@word_good (s.extract a j))
                 have HTK := Hi htk
                 have HN := Hi htn
                 generalize hK : wordK (s.extract a j) = K at HWD HWZ HWG HTK
                 clear hje hjr htk htn hK
                 have hgt : a < j := by omega

                 obtain ⟨W2, hW2, ht2, hB2⟩ := kind_R HT1.out (K)
                 have HB2 := Hi (HB1.out.trans (hB2.mono (by omega)))
                 have u0 := cells_at ht2 0 _ rfl
                 have u1 := cells_at ht2 1 _ rfl
                 have f1 := ht2.f
                 have HBW := HB2
                 clear hB2
                 by_cases hK0 : K = 0
                 · subst hK0
                   have HT : Hid (tokAt s a = ⟨0, s.extract a j, a, 31⟩) := Hi (by rw [HTK.out, HWZ.out rfl])
                   clear HTK HWZ HWG ht2
                   go_wp2_with (first | (go_at_call 144; refine (rblank_any _ _).mono ?_; rintro e w2 ⟨rfl, rfl⟩) | (go_at_call 145; refine (rletter_any _ _).mono ?_; rintro e w2 ⟨rfl, rfl⟩) | (go_at_call 146; refine (rdigit3_any _ _).mono ?_; rintro e w2 ⟨rfl, rfl⟩) | (go_at_call 147; refine (HWD.out _).mono ?_; rintro e w2 ⟨rfl, rfl⟩))
                   refine bodyPost_ret (v := .tuple #[.slice none 0 0, .int .i64 a, .int .i64 31]) (by simp [results, Tryz.results106, go_sem]) rfl ?_
                   refine ⟨HI.out.below.trans (HBW.out.mono HI.out.below.size), ?_⟩
                   rw [HI.out.bad hlt H17.out (by rw [HT.out]; show (31 : Int) ≠ 0; decide)]
                   show _ = Ending.returned (.tuple #[.slice none 0 0, .int .i64 (tokAt s a).a, .int .i64 (tokAt s a).e])
                   rw [HT.out]
                 · have HT : Hid (tokAt s a = ⟨K, s.extract a j, a, 0⟩) := Hi (by rw [HTK.out, HWG.out hK0])
                   have e0 : (K == 0) = false := by simpa using hK0
                   clear HTK HWZ HWG hK0
                   as_aux_lemma =>
                     obtain ⟨W3, hW3, ht3, hB3⟩ := text_R ht2 (s.extract a j)
                     have hB13 := HB2.out.trans hB3
                     have v0 := cells_at ht3 0 _ rfl
                     have v1 := cells_at ht3 1 _ rfl
                     have v2 := cells_at ht3 2 _ rfl
                     obtain ⟨W4, hW4, hc4, hB4⟩ := row_R W3 K (s.extract a j) a
                     have hB14 := hB13.trans (hB4.mono hB13.size)
                     have hsz4 := hB14.size
                     have hsz0 := HI.out.below.size
                     have hln := HI.out.len
                     obtain ⟨i0, hi⟩ := info_parts infoR
                     have HIF := Hi hi
                     have HRW := Hi (own_growR HI.out.row hB14)
                     have HB14 := Hi hB14
                     have HC4 := Hi hc4
                     clear ht2 ht3 hB3 hB13 hc4 hB4 hB14 hi
                     go_wp2_with (first | (go_at_call 144; refine (rblank_any _ _).mono ?_; rintro e w2 ⟨rfl, rfl⟩) | (go_at_call 145; refine (rletter_any _ _).mono ?_; rintro e w2 ⟨rfl, rfl⟩) | (go_at_call 146; refine (rdigit3_any _ _).mono ?_; rintro e w2 ⟨rfl, rfl⟩) | (go_at_call 147; refine (HWD.out _).mono ?_; rintro e w2 ⟨rfl, rfl⟩) | (at_builtin; go_loud (refine wpList_append_own _ rfl _ _ 104 rfl w.heap.size 153 i0 _ 3 32 Tryz.underlying104 HIF.out.1 HIF.out.2.1 HIF.out.2.2.1 HIF.out.2.2.2 rfl (by decide) _ _ _ rfl HRW.out ⟨_, 0, none⟩ 1 1 [.int .i64 K, .string (s.extract a j), .int .i64 a] rfl rfl ?c1 ?c2 ?c3 ?c4 ?c5 ?_)))
                     case c1 =>
                       intro jj u hu
                       rcases jj with _ | _ | _ | jj
                       · cases hu; exact cells_at HC4.out 0 _ rfl
                       · cases hu; exact cells_at HC4.out 1 _ rfl
                       · cases hu; exact cells_at HC4.out 2 _ rfl
                       · simp at hu
                     case c2 => simp [Value.oneCell']
                     case c3 => have := HS.out; unfold maxLen; omega
                     case c4 => have := HS.out; omega
                     case c5 => omega
                     intro v6 w6 hO6 hg6 _
                     have hB6 : Below w.heap.size w w6 := (HI.out.below.trans (HB14.out.mono HI.out.below.size)).grown hg6 (by omega) (fun k e => by have := (HRW.out.lt k e).1; omega)
                     have hO6' : w6.ownsRow w.heap.size 153 3 v6 (acc ++ [tokAt s a]).length (cellsR (acc ++ [tokAt s a])) := by
                       rw [HT.out, cellsR_append, List.length_append]
                       exact hO6
                     have HI6 : Hid (RInv s w (acc ++ [tokAt s a]) j v6 w6) := Hi ⟨hj, by rw [HI.out.good hlt H17.out (by rw [HT.out]), HN.out], fun x hx => by
                       rcases List.mem_append.1 hx with h | h
                       · exact HI.out.ok x h
                       · simp at h; rw [h, HT.out], hO6', hB6⟩
                     clear hO6 hO6' hg6 hB6
                     go_wp2_with fail
                     go_roundw
                     case rel => exact ⟨acc ++ [tokAt s a], j, _, rfl, rfl, HI6.out⟩
                     case measure => simp [intOf]; omega
         · have hb10 : begB (inB 10) s a = true := by rw [beg_at hlt, inB10, q2]; rfl
           go_wp2_with (first | (go_at_call 144; refine (rblank_any _ _).mono ?_; rintro e w2 ⟨rfl, rfl⟩) | (go_at_call 145; refine (rletter_any _ _).mono ?_; rintro e w2 ⟨rfl, rfl⟩) | (go_at_call 146; refine (rdigit3_any _ _).mono ?_; rintro e w2 ⟨rfl, rfl⟩))
           go_loop [7] (fun i => ∃ j : Nat, a + 1 ≤ j ∧ j ≤ s.size ∧ i = .int .i64 j ∧ runN (inB 14) s j = runN (inB 14) s (a + 1)) (fun i => s.size - (intOf i).toNat)
           case atStart => exact ⟨a + 1, Nat.le_refl _, by omega, rfl, rfl⟩
           case round =>
             obtain ⟨j, haj, hj, rfl, hr⟩ := hrel
             have HR := Hi hr
             clear hr
             by_cases hlj : j < s.size
             · cases p2 : inB 2 (s[j].toNat : Int)
               · cases p4 : inB 4 (s[j].toNat : Int)
                 · cases p95 : ((s[j].toNat : Int) == 95)
                   · have hje := runN_stop (p := inB 14) (s := s) (a := j) (by rw [beg_at hlj, inB14, p2, p4, inB8, p95]; rfl)
                     have hjr : j = runN (inB 14) s a := (hje.symm.trans HR.out).trans (runN_step (beg10_14 hb10))
                     have htn : tokN s a = j := by
                       unfold tokN
                       simp only [hb10, reduceIte]
                       exact hjr.symm
                     have htk : tokAt s a = ⟨wordK (s.extract a j), s.extract a j, a, wordE (s.extract a j)⟩ := by
                       unfold tokAt
                       rw [htn]
                       unfold tkK tkE
                       simp only [hb10, reduceIte]
                     have HWD := Hi (fun w => rword3_any (s.extract a j) w (ext_le s _ _ HM.out))
                     have HWZ := Hi (@word_zero (s.extract a j))
                     have HWG := Hi (@word_good (s.extract a j))
                     have HTK := Hi htk
                     have HN := Hi htn
                     generalize hK : wordK (s.extract a j) = K at HWD HWZ HWG HTK
                     clear hje hjr htk htn hK
                     have hgt : a < j := by omega

                     obtain ⟨W2, hW2, ht2, hB2⟩ := kind_R HT1.out (K)
                     have HB2 := Hi (HB1.out.trans (hB2.mono (by omega)))
                     have u0 := cells_at ht2 0 _ rfl
                     have u1 := cells_at ht2 1 _ rfl
                     have f1 := ht2.f
                     have HBW := HB2
                     clear hB2
                     by_cases hK0 : K = 0
                     · subst hK0
                       have HT : Hid (tokAt s a = ⟨0, s.extract a j, a, 31⟩) := Hi (by rw [HTK.out, HWZ.out rfl])
                       clear HTK HWZ HWG ht2
                       go_wp2_with (first | (go_at_call 144; refine (rblank_any _ _).mono ?_; rintro e w2 ⟨rfl, rfl⟩) | (go_at_call 145; refine (rletter_any _ _).mono ?_; rintro e w2 ⟨rfl, rfl⟩) | (go_at_call 146; refine (rdigit3_any _ _).mono ?_; rintro e w2 ⟨rfl, rfl⟩) | (go_at_call 147; refine (HWD.out _).mono ?_; rintro e w2 ⟨rfl, rfl⟩))
                       refine bodyPost_ret (v := .tuple #[.slice none 0 0, .int .i64 a, .int .i64 31]) (by simp [results, Tryz.results106, go_sem]) rfl ?_
                       refine ⟨HI.out.below.trans (HBW.out.mono HI.out.below.size), ?_⟩
                       rw [HI.out.bad hlt H17.out (by rw [HT.out]; show (31 : Int) ≠ 0; decide)]
                       show _ = Ending.returned (.tuple #[.slice none 0 0, .int .i64 (tokAt s a).a, .int .i64 (tokAt s a).e])
                       rw [HT.out]
                     · have HT : Hid (tokAt s a = ⟨K, s.extract a j, a, 0⟩) := Hi (by rw [HTK.out, HWG.out hK0])
                       have e0 : (K == 0) = false := by simpa using hK0
                       clear HTK HWZ HWG hK0
                       as_aux_lemma =>
                         obtain ⟨W3, hW3, ht3, hB3⟩ := text_R ht2 (s.extract a j)
                         have hB13 := HB2.out.trans hB3
                         have v0 := cells_at ht3 0 _ rfl
                         have v1 := cells_at ht3 1 _ rfl
                         have v2 := cells_at ht3 2 _ rfl
                         obtain ⟨W4, hW4, hc4, hB4⟩ := row_R W3 K (s.extract a j) a
                         have hB14 := hB13.trans (hB4.mono hB13.size)
                         have hsz4 := hB14.size
                         have hsz0 := HI.out.below.size
                         have hln := HI.out.len
                         obtain ⟨i0, hi⟩ := info_parts infoR
                         have HIF := Hi hi
                         have HRW := Hi (own_growR HI.out.row hB14)
                         have HB14 := Hi hB14
                         have HC4 := Hi hc4
                         clear ht2 ht3 hB3 hB13 hc4 hB4 hB14 hi
                         go_wp2_with (first | (go_at_call 144; refine (rblank_any _ _).mono ?_; rintro e w2 ⟨rfl, rfl⟩) | (go_at_call 145; refine (rletter_any _ _).mono ?_; rintro e w2 ⟨rfl, rfl⟩) | (go_at_call 146; refine (rdigit3_any _ _).mono ?_; rintro e w2 ⟨rfl, rfl⟩) | (go_at_call 147; refine (HWD.out _).mono ?_; rintro e w2 ⟨rfl, rfl⟩) | (at_builtin; go_loud (refine wpList_append_own _ rfl _ _ 104 rfl w.heap.size 153 i0 _ 3 32 Tryz.underlying104 HIF.out.1 HIF.out.2.1 HIF.out.2.2.1 HIF.out.2.2.2 rfl (by decide) _ _ _ rfl HRW.out ⟨_, 0, none⟩ 1 1 [.int .i64 K, .string (s.extract a j), .int .i64 a] rfl rfl ?c1 ?c2 ?c3 ?c4 ?c5 ?_)))
                         case c1 =>
                           intro jj u hu
                           rcases jj with _ | _ | _ | jj
                           · cases hu; exact cells_at HC4.out 0 _ rfl
                           · cases hu; exact cells_at HC4.out 1 _ rfl
                           · cases hu; exact cells_at HC4.out 2 _ rfl
                           · simp at hu
                         case c2 => simp [Value.oneCell']
                         case c3 => have := HS.out; unfold maxLen; omega
                         case c4 => have := HS.out; omega
                         case c5 => omega
                         intro v6 w6 hO6 hg6 _
                         have hB6 : Below w.heap.size w w6 := (HI.out.below.trans (HB14.out.mono HI.out.below.size)).grown hg6 (by omega) (fun k e => by have := (HRW.out.lt k e).1; omega)
                         have hO6' : w6.ownsRow w.heap.size 153 3 v6 (acc ++ [tokAt s a]).length (cellsR (acc ++ [tokAt s a])) := by
                           rw [HT.out, cellsR_append, List.length_append]
                           exact hO6
                         have HI6 : Hid (RInv s w (acc ++ [tokAt s a]) j v6 w6) := Hi ⟨hj, by rw [HI.out.good hlt H17.out (by rw [HT.out]), HN.out], fun x hx => by
                           rcases List.mem_append.1 hx with h | h
                           · exact HI.out.ok x h
                           · simp at h; rw [h, HT.out], hO6', hB6⟩
                         clear hO6 hO6' hg6 hB6
                         go_wp2_with fail
                         go_roundw
                         case rel => exact ⟨acc ++ [tokAt s a], j, _, rfl, rfl, HI6.out⟩
                         case measure => simp [intOf]; omega
                   · go_wp2_with (first | (go_at_call 144; refine (rblank_any _ _).mono ?_; rintro e w2 ⟨rfl, rfl⟩) | (go_at_call 145; refine (rletter_any _ _).mono ?_; rintro e w2 ⟨rfl, rfl⟩) | (go_at_call 146; refine (rdigit3_any _ _).mono ?_; rintro e w2 ⟨rfl, rfl⟩))
                     go_round
                     case rel => exact ⟨j + 1, by omega, by omega, by go_num, by rw [runN_step (by rw [beg_at hlj, inB14, p2, p4, inB8, p95]; rfl)]; exact HR.out⟩
                     case measure => simp [intOf]; omega
                 · go_wp2_with (first | (go_at_call 144; refine (rblank_any _ _).mono ?_; rintro e w2 ⟨rfl, rfl⟩) | (go_at_call 145; refine (rletter_any _ _).mono ?_; rintro e w2 ⟨rfl, rfl⟩) | (go_at_call 146; refine (rdigit3_any _ _).mono ?_; rintro e w2 ⟨rfl, rfl⟩))
                   go_round
                   case rel => exact ⟨j + 1, by omega, by omega, by go_num, by rw [runN_step (by rw [beg_at hlj, inB14, p2, p4]; rfl)]; exact HR.out⟩
                   case measure => simp [intOf]; omega
               · go_wp2_with (first | (go_at_call 144; refine (rblank_any _ _).mono ?_; rintro e w2 ⟨rfl, rfl⟩) | (go_at_call 145; refine (rletter_any _ _).mono ?_; rintro e w2 ⟨rfl, rfl⟩) | (go_at_call 146; refine (rdigit3_any _ _).mono ?_; rintro e w2 ⟨rfl, rfl⟩))
                 go_round
                 case rel => exact ⟨j + 1, by omega, by omega, by go_num, by rw [runN_step (by rw [beg_at hlj, inB14, p2]; rfl)]; exact HR.out⟩
                 case measure => simp [intOf]; omega
             · have hje := runN_stop (p := inB 14) (s := s) (a := j) (by unfold begB; rw [dif_neg hlj])
               have hjr : j = runN (inB 14) s a := (hje.symm.trans HR.out).trans (runN_step (beg10_14 hb10))
               have htn : tokN s a = j := by
                 unfold tokN
                 simp only [hb10, reduceIte]
                 exact hjr.symm
               have htk : tokAt s a = ⟨wordK (s.extract a j), s.extract a j, a, wordE (s.extract a j)⟩ := by
                 unfold tokAt
                 rw [htn]
                 unfold tkK tkE
                 simp only [hb10, reduceIte]
               have HWD := Hi (fun w => rword3_any (s.extract a j) w (ext_le s _ _ HM.out))
               have HWZ := Hi (@word_zero (s.extract a j))
               have HWG := Hi (@word_good (s.extract a j))
               have HTK := Hi htk
               have HN := Hi htn
               generalize hK : wordK (s.extract a j) = K at HWD HWZ HWG HTK
               clear hje hjr htk htn hK
               have hgt : a < j := by omega

               obtain ⟨W2, hW2, ht2, hB2⟩ := kind_R HT1.out (K)
               have HB2 := Hi (HB1.out.trans (hB2.mono (by omega)))
               have u0 := cells_at ht2 0 _ rfl
               have u1 := cells_at ht2 1 _ rfl
               have f1 := ht2.f
               have HBW := HB2
               clear hB2
               by_cases hK0 : K = 0
               · subst hK0
                 have HT : Hid (tokAt s a = ⟨0, s.extract a j, a, 31⟩) := Hi (by rw [HTK.out, HWZ.out rfl])
                 clear HTK HWZ HWG ht2
                 go_wp2_with (first | (go_at_call 144; refine (rblank_any _ _).mono ?_; rintro e w2 ⟨rfl, rfl⟩) | (go_at_call 145; refine (rletter_any _ _).mono ?_; rintro e w2 ⟨rfl, rfl⟩) | (go_at_call 146; refine (rdigit3_any _ _).mono ?_; rintro e w2 ⟨rfl, rfl⟩) | (go_at_call 147; refine (HWD.out _).mono ?_; rintro e w2 ⟨rfl, rfl⟩))
                 refine bodyPost_ret (v := .tuple #[.slice none 0 0, .int .i64 a, .int .i64 31]) (by simp [results, Tryz.results106, go_sem]) rfl ?_
                 refine ⟨HI.out.below.trans (HBW.out.mono HI.out.below.size), ?_⟩
                 rw [HI.out.bad hlt H17.out (by rw [HT.out]; show (31 : Int) ≠ 0; decide)]
                 show _ = Ending.returned (.tuple #[.slice none 0 0, .int .i64 (tokAt s a).a, .int .i64 (tokAt s a).e])
                 rw [HT.out]
               · have HT : Hid (tokAt s a = ⟨K, s.extract a j, a, 0⟩) := Hi (by rw [HTK.out, HWG.out hK0])
                 have e0 : (K == 0) = false := by simpa using hK0
                 clear HTK HWZ HWG hK0
                 as_aux_lemma =>
                   obtain ⟨W3, hW3, ht3, hB3⟩ := text_R ht2 (s.extract a j)
                   have hB13 := HB2.out.trans hB3
                   have v0 := cells_at ht3 0 _ rfl
                   have v1 := cells_at ht3 1 _ rfl
                   have v2 := cells_at ht3 2 _ rfl
                   obtain ⟨W4, hW4, hc4, hB4⟩ := row_R W3 K (s.extract a j) a
                   have hB14 := hB13.trans (hB4.mono hB13.size)
                   have hsz4 := hB14.size
                   have hsz0 := HI.out.below.size
                   have hln := HI.out.len
                   obtain ⟨i0, hi⟩ := info_parts infoR
                   have HIF := Hi hi
                   have HRW := Hi (own_growR HI.out.row hB14)
                   have HB14 := Hi hB14
                   have HC4 := Hi hc4
                   clear ht2 ht3 hB3 hB13 hc4 hB4 hB14 hi
                   go_wp2_with (first | (go_at_call 144; refine (rblank_any _ _).mono ?_; rintro e w2 ⟨rfl, rfl⟩) | (go_at_call 145; refine (rletter_any _ _).mono ?_; rintro e w2 ⟨rfl, rfl⟩) | (go_at_call 146; refine (rdigit3_any _ _).mono ?_; rintro e w2 ⟨rfl, rfl⟩) | (go_at_call 147; refine (HWD.out _).mono ?_; rintro e w2 ⟨rfl, rfl⟩) | (at_builtin; go_loud (refine wpList_append_own _ rfl _ _ 104 rfl w.heap.size 153 i0 _ 3 32 Tryz.underlying104 HIF.out.1 HIF.out.2.1 HIF.out.2.2.1 HIF.out.2.2.2 rfl (by decide) _ _ _ rfl HRW.out ⟨_, 0, none⟩ 1 1 [.int .i64 K, .string (s.extract a j), .int .i64 a] rfl rfl ?c1 ?c2 ?c3 ?c4 ?c5 ?_)))
                   case c1 =>
                     intro jj u hu
                     rcases jj with _ | _ | _ | jj
                     · cases hu; exact cells_at HC4.out 0 _ rfl
                     · cases hu; exact cells_at HC4.out 1 _ rfl
                     · cases hu; exact cells_at HC4.out 2 _ rfl
                     · simp at hu
                   case c2 => simp [Value.oneCell']
                   case c3 => have := HS.out; unfold maxLen; omega
                   case c4 => have := HS.out; omega
                   case c5 => omega
                   intro v6 w6 hO6 hg6 _
                   have hB6 : Below w.heap.size w w6 := (HI.out.below.trans (HB14.out.mono HI.out.below.size)).grown hg6 (by omega) (fun k e => by have := (HRW.out.lt k e).1; omega)
                   have hO6' : w6.ownsRow w.heap.size 153 3 v6 (acc ++ [tokAt s a]).length (cellsR (acc ++ [tokAt s a])) := by
                     rw [HT.out, cellsR_append, List.length_append]
                     exact hO6
                   have HI6 : Hid (RInv s w (acc ++ [tokAt s a]) j v6 w6) := Hi ⟨hj, by rw [HI.out.good hlt H17.out (by rw [HT.out]), HN.out], fun x hx => by
                     rcases List.mem_append.1 hx with h | h
                     · exact HI.out.ok x h
                     · simp at h; rw [h, HT.out], hO6', hB6⟩
                   clear hO6 hO6' hg6 hB6
                   go_wp2_with fail
                   go_roundw
                   case rel => exact ⟨acc ++ [tokAt s a], j, _, rfl, rfl, HI6.out⟩
                   case measure => simp [intOf]; omega
       · have hb16 : begB (inB 16) s a = true := by rw [beg_at hlt, inB16]; exact q16
         have hgt := runN_gt (beg16 hb16)
         have HL := Hi (lexR_line hb16)
         clear hb16
         go_wp2_with (first | (go_at_call 144; refine (rblank_any _ _).mono ?_; rintro e w2 ⟨rfl, rfl⟩) | (go_at_call 145; refine (rletter_any _ _).mono ?_; rintro e w2 ⟨rfl, rfl⟩) | (go_at_call 146; refine (rdigit3_any _ _).mono ?_; rintro e w2 ⟨rfl, rfl⟩))
         go_loop [6] (fun i => ∃ j : Nat, a ≤ j ∧ j ≤ s.size ∧ i = .int .i64 j ∧ runN nlB s j = runN nlB s a) (fun i => s.size - (intOf i).toNat)
         case atStart => exact ⟨a, Nat.le_refl _, hle, rfl, rfl⟩
         case round =>
           obtain ⟨j, haj, hj, rfl, hr⟩ := hrel
           by_cases hlj : j < s.size
           · cases p10 : ((s[j].toNat : Int) == 10)
             · have p10' : ((s[j].toNat : Int) != 10) = true := by rw [bne, p10]; rfl
               have HR := Hi hr
               clear hr
               go_wp2
               go_round
               case rel => exact ⟨j + 1, by omega, by omega, by go_num, by rw [runN_step (by rw [beg_at hlj]; unfold nlB; rw [p10]; rfl)]; exact HR.out⟩
               case measure => simp [intOf]; omega
             · have p10' : ((s[j].toNat : Int) != 10) = false := by rw [bne, p10]; rfl
               have hje := runN_stop (p := nlB) (s := s) (a := j) (by rw [beg_at hlj]; unfold nlB; rw [p10]; rfl)
               have hjr := hje.symm.trans hr
               have HR := Hi hjr
               rw [← hjr] at hgt HL
               clear hr hje hjr
               go_wp2
               go_roundw
               case rel => exact ⟨acc, j, _, rfl, rfl, HI.out.at hj HL.out⟩
               case measure => simp [intOf]; omega
           · have hje := runN_stop (p := nlB) (s := s) (a := j) (by unfold begB; rw [dif_neg hlj])
             have hjr := hje.symm.trans hr
             rw [← hjr] at hgt HL
             clear hr hje hjr
             go_wp2
             go_roundw
             case rel => exact ⟨acc, j, _, rfl, rfl, HI.out.at hj HL.out⟩
             case measure => simp [intOf]; omega
     · go_wp2_with (first | (go_at_call 144; refine (rblank_any _ _).mono ?_; rintro e w2 ⟨rfl, rfl⟩) | (go_at_call 145; refine (rletter_any _ _).mono ?_; rintro e w2 ⟨rfl, rfl⟩) | (go_at_call 146; refine (rdigit3_any _ _).mono ?_; rintro e w2 ⟨rfl, rfl⟩))
       go_roundw
       case rel => exact ⟨acc, a + 1, _, by go_num, rfl, HI.out.at (by omega) (lexR_blank (by rw [beg_at hlt]; exact q1))⟩
       case measure => simp [intOf]; omega
   · obtain ⟨hal, her⟩ := HI.out.done hlt
     go_wp2
     refine bodyPost_ret (v := .tuple #[out, .int .i64 0, .int .i64 0]) (by simp [results, Tryz.results106, go_sem]) rfl ?_
     refine ⟨HI.out.below, ?_⟩
     rw [her]
     exact ⟨_, rfl, by rw [hal]; exact HI.out.row⟩
end Go.Proofs.YtlmdhlckgbgfhaaGreatDoor
