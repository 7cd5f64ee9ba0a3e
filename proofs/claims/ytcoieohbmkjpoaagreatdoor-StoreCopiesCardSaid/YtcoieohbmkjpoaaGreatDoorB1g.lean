/- Texts that belong together: Package store: sorted, Sorted. Package store: Sorted. awake: its atoms and what the store makes of them. awake: what Find, Sorted and Sigs give. awake: rows of terms; chains of worlds. All, Find, Sorted of a store; the same twice. awake. great: the size of a list of atoms. in: whether a list holds an atom. Has. An argument of type api.Term, opened: what the row reads is a term that memory holds. An argument of type []api.Term, opened and shut. An argument of type api.Atom, opened and shut. -/
import Derived.Test.YtcoieohbmkjpoaaGreatDoorB1e
import Derived.Test.YtcoieohbmkjpoaaGreatDoorShelfI
import Derived.Test.YtcoieohbmkjpoaaGreatDoorB1f
import Derived.Test.YtcoieohbmkjpoaaGreatDoorB1a
import Derived.Test.YtcoieohbmkjpoaaGreatDoorChecked
import Derived.Laws.OwnMore
import Derived.Lib.SmallJoins
import Derived.Deep.Slices
import Derived.OpenShut
import Derived.Below
import Derived.WideKeyArgs
import Derived.WideShapes
namespace Go.Proofs.YtcoieohbmkjpoaaGreatDoor
open Go.RowKit Go.Shelf Go.Maps
attribute [local go_sem] Oper.semAt_some

/-- A block that holds a row of one-cell elements from its start on. -/
def OwnR {α : Type} (enc : α → Value) (t : TypeId) (w : World) (g : Nat) (E : List α) : Prop := ∃ cur, w.heap[g]? = some (.cells cur t (0, 0)) ∧ cur.size = E.length ∧ ∀ i (h : i < E.length), cur[i]? = some (enc E[i])
section
variable {α : Type} {enc : α → Value} {t : TypeId} {w w' : World} {g : Nat} {E : List α}
theorem OwnR.cell (h : OwnR enc t w g E) (i : Nat) (hi : i < E.length) : w.cell? ⟨g, i, none⟩ = some (enc E[i]) := by
  obtain ⟨cur, h1, _, h2⟩ := h
  exact cells_at h1 i _ (h2 i hi)
theorem OwnR.fz (h : OwnR enc t w g E) (i : Nat) : w.frozen? ⟨g, i, none⟩ = false := by
  obtain ⟨cur, h1, h2⟩ := h
  simp [World.frozen?, h1]
theorem OwnR.lt (h : OwnR enc t w g E) : g < w.heap.size := by
  obtain ⟨cur, h1, h2⟩ := h
  exact (Array.getElem?_eq_some_iff.1 h1).1
theorem OwnR.same (h : OwnR enc t w g E) (hb : w'.heap[g]? = w.heap[g]?) : OwnR enc t w' g E := by
  obtain ⟨cur, h1, h2⟩ := h
  exact ⟨cur, hb.trans h1, h2⟩
theorem OwnR.set (h : OwnR enc t w g E) (i : Nat) (x : α) : OwnR enc t (w.setCell ⟨g, i, none⟩ (enc x)) g (E.set i x) := by
  obtain ⟨cur, h1, hz, h2⟩ := h
  have hl := (Array.getElem?_eq_some_iff.1 h1).1
  have he : w.heap[g] = .cells cur t (0, 0) := by rw [Array.getElem?_eq_getElem hl] at h1; exact Option.some.inj h1
  refine ⟨cur.setIfInBounds i (enc x), by simp [World.setCell, hl, Array.getElem_modify, he], by simpa using hz, fun k hk => ?_⟩
  have hk' : k < E.length := by simpa using hk
  have h3 := h2 k hk'
  have hkc : k < cur.size := (Array.getElem?_eq_some_iff.1 h3).1
  rw [Array.getElem?_setIfInBounds]
  by_cases e : i = k
  · subst e
    rw [if_pos rfl, if_pos hkc]
    simp
  · rw [if_neg e, h3, List.getElem_set, if_neg e]
end
def nI (x : Nat) : Value := .int .i64 (x : Int)
theorem info_int : (Tryz.prog.info? 3).map (fun i => (i.zero, i.size, i.bytes)) = some (some (.int .i64 0), 1, 8) := by kernel_rfl
theorem make_ints (n : Nat) (hn : n ≤ 1000000000000) (w : World) : ∃ w', (Instr.makeSlice 85 (.int .i64 (n : Int)) (.int .i64 (n : Int))).run Tryz.prog w = .ok (.slice (some ⟨w.heap.size, 0, none⟩) n n) w' ∧
    OwnR nI 3 w' w.heap.size (List.replicate n 0) ∧ Below w.heap.size w w' := by
  obtain ⟨i0, hi, hz, hs, hb⟩ := info_parts' info_int
  obtain ⟨w', h1, h2, h3⟩ := run_make_full (P := Tryz.prog) w w.heap.size 85 3 i0 _ 1 Tryz.underlying85 hi hz hs .i64 .i64 n (by rw [hb]; omega) (by unfold maxLen; omega) (Nat.le_refl _)
  refine ⟨w', h1, ?_, (Below.refl _ w).grown h3 (Nat.le_refl _) (fun k e => by cases e)⟩
  rcases h2.2 with ⟨e, _⟩ | ⟨g', cap, cur, e, q1, q2, q3, q4, q5, q6⟩
  · simp at e
  · simp only [Value.slice.injEq, Option.some.injEq, Addr.mk.injEq, and_true, true_and] at e
    obtain ⟨rfl, rfl⟩ := e
    refine ⟨cur, q2, by rw [List.length_replicate]; omega, fun i hi' => ?_⟩
    have hi2 : i < n := by simpa using hi'
    have h4 : (cur.toList.take (n * 1))[i]? = some (nI 0) := by
      rw [q6, Array.getElem?_toList, Array.getElem?_eq_getElem (by rw [size_madeCells]; omega)]
      simp [madeCells, Value.cells, Nat.mod_one, nI]
    rw [List.getElem?_take_of_lt (by omega), Array.getElem?_toList] at h4
    rw [h4]
    simp
/-- The numbers 0 to j - 1, then zeroes. -/
def upTo (n j : Nat) : List Nat := (List.range n).map fun i => if i < j then i else 0
theorem upTo_zero (n : Nat) : upTo n 0 = List.replicate n 0 := by
  unfold upTo
  rw [List.eq_replicate_iff]
  simp
theorem upTo_all (n : Nat) : upTo n n = List.range n := by
  unfold upTo
  conv => rhs; rw [← List.map_id (List.range n)]
  refine List.map_congr_left fun i hi => ?_
  rw [if_pos (List.mem_range.1 hi)]; rfl
theorem upTo_len (n j : Nat) : (upTo n j).length = n := by simp [upTo]
theorem upTo_set (n j : Nat) : (upTo n j).set j j = upTo n (j + 1) := by
  apply List.ext_getElem?
  intro i
  rw [List.getElem?_set]
  by_cases e : j = i
  · subst e
    rw [if_pos rfl, upTo_len]
    by_cases h : j < n
    · rw [if_pos h]; unfold upTo; simp [h]
    · rw [if_neg h, List.getElem?_eq_none (by rw [upTo_len]; omega)]
  · rw [if_neg e]
    unfold upTo
    by_cases h : i < n
    · simp only [List.getElem?_map, List.getElem?_range h, Option.map_some]
      congr 1
      by_cases h1 : i < j
      · rw [if_pos h1, if_pos (by omega)]
      · rw [if_neg h1, if_neg (by omega)]
    · rw [List.getElem?_eq_none (by simp; omega), List.getElem?_eq_none (by simp; omega)]
/-- A sorted list of numbers of atoms. -/
def SortedN (L : List Ato) (is : List Nat) : Prop := is.Perm (List.range L.length) ∧ is.Pairwise fun i k => ¬ cmpA ((L[k]?).getD (⟨#[]⟩, [])) ((L[i]?).getD (⟨#[]⟩, [])) < 0
theorem swoF (L : List Ato) (hg : ∀ x ∈ L, Tm.GoodL x.2) : Go.Sort.SWO (ltOf (cfI L)) := by
  have good : ∀ i : Fin L.length, Tm.GoodL L[i].2 := fun i => hg _ (List.getElem_mem _)
  have neg : ∀ x y, cfI L y x = -cfI L x y := fun x y => cmpA_neg _ _ (good x) (good y)
  have self : ∀ x, cfI L x x = 0 := fun x => (cmpA_zero _ _ (good x) (good x)).2 rfl
  have tri : ∀ x y z, Tri (cfI L x y) (cfI L y z) (cfI L x z) := fun x y z => cmpA_tri _ _ _ (good x) (good y) (good z)
  refine ⟨fun x => ?_, fun x y z h1 h2 => ?_, fun x y z h1 h2 => ?_⟩
  · exact decide_eq_false (by rw [self x]; omega)
  · have h1 := of_decide_eq_true h1
    have h2 := of_decide_eq_true h2
    have ht := tri x y z (by omega) (by omega)
    refine decide_eq_true ?_
    by_cases e : cfI L x z = 0
    · have := (ht.2.1 e).1; omega
    · have := ht.1; omega
  · have h1 := of_decide_eq_false h1
    have h2 := of_decide_eq_false h2
    have n1 := neg x y
    have n2 := neg y z
    have n3 := neg x z
    have ht := tri z y x (by omega) (by omega)
    refine decide_eq_false ?_
    have := ht.1
    omega
set_option maxRecDepth 100000 in
set_option maxHeartbeats 2000000 in
theorem sortF_any (bx g cap : Nat) (lv : Value) (L : List Ato) (hpos : 0 < L.length) (hlen : L.length ≤ 1000000) (w : World) (hb : w.heap[bx]? = some (.cells #[lv] 52 (0, 0))) (_ : LstR w lv L) (hgood : ∀ x ∈ L, Tm.GoodL x.2) (hO : OwnR nI 3 w g (List.range L.length)) (hne : lv.ownBlock ≠ some g) (hbg : bx ≠ g) (hfl : ∃ xs, w.ownsRow 0 24 2 lv L.length xs ∧ FlatA (fun b => b < w.heap.size ∧ b ≠ g) w xs L) :
    Calls Tryz.prog 93 #[.slice (some ⟨g, 0, none⟩) L.length cap, .func (.func 94) #[] #[.pointer (some ⟨bx, 0, none⟩)]] w fun e w' => e = .returned (.tuple #[]) ∧ ∃ is, SortedN L is ∧ OwnR nI 3 w' g is ∧ w.grownBy w' (some g) := by
  haveI : Inhabited (Fin L.length) := ⟨⟨0, hpos⟩⟩
  obtain ⟨d, hd⟩ : ∃ d : Array (Fin L.length), (List.finRange L.length).toArray = d := ⟨_, rfl⟩
  have hds : d.size = L.length := by rw [← hd]; simp
  have hdi : ∀ j (h : j < d.size), (d[j]'h).val = j := fun j h => by subst hd; simp
  have hH : Go.Sort.Holds (fun i : Fin L.length => nI i.val) w g 0 d := by
    intro j hj
    refine ⟨?_, hO.fz _⟩
    rw [Nat.zero_add, hO.cell j (by simp; omega), getElem!_pos d j hj]
    show some (nI _) = some (nI (d[j]'hj).val)
    rw [hdi j hj]
    simp
  have hcm : ∀ (m : Nat) (os : Array Obj) (dk : Array (Fin L.length)), dk.size = d.size → ∀ x y : Fin L.length, Calls Tryz.prog 94 (#[nI x.val, nI y.val] ++ #[.pointer (some ⟨bx, 0, none⟩)]) (sortWorld (fun i : Fin L.length => nI i.val) w g 0 m dk os) fun e w' => e = .returned (.int .i64 (cfI L x y)) ∧ ∃ q os', w' = Go.Sort.grow ((sortWorld (fun i : Fin L.length => nI i.val) w g 0 m dk os).drewN q) os' := by
    intro m os dk hdk x y
    have hgl := hO.lt
    have hoff : ∀ b, b ≠ g → b < w.heap.size → (sortWorld (fun i : Fin L.length => nI i.val) w g 0 m dk os).heap[b]? = w.heap[b]? := by
      intro b hne hlt
      unfold sortWorld
      rw [Go.Sort.heap_grow_old _ _ (by simpa [Go.Sort.ahead] using hlt)]
      simp [Go.Sort.putRow, Go.Sort.mapBlock, Go.Sort.ahead, Array.getElem?_modify, Ne.symm hne]
    have hsz : w.heap.size ≤ (sortWorld (fun i : Fin L.length => nI i.val) w g 0 m dk os).heap.size := by simp [sortWorld, Go.Sort.grow, Go.Sort.ahead]
    obtain ⟨xs, ho, hf⟩ := hfl
    have hbl := (Array.getElem?_eq_some_iff.1 hb).1
    have hR' : LstR (sortWorld (fun i : Fin L.length => nI i.val) w g 0 m dk os) lv L := by
      refine ⟨xs, ?_, hf.same (fun b h => by omega) (fun b h => hoff b h.2 h.1)⟩
      obtain ⟨q1, q2⟩ := ho
      refine ⟨q1, ?_⟩
      rcases q2 with q2 | ⟨g', cap', cur, e, q3, q4, q5⟩
      · exact Or.inl q2
      · exact Or.inr ⟨g', cap', cur, e, q3, (hoff g' (fun e2 => hne (by rw [e, e2]; rfl)) (Array.getElem?_eq_some_iff.1 q4).1).trans q4, q5⟩
    exact (sorted1_any bx lv L x.val y.val _ ((hoff bx hbg hbl).trans hb) hR' x.isLt y.isLt).mono fun e w' h => ⟨h.1, h.2.grow⟩
  have h := Any.slices_SortFunc Tryz.sortI (fun i : Fin L.length => nI i.val) (fun _ => rfl) (cfI L) (swoF L hgood) 94 #[.pointer (some ⟨bx, 0, none⟩)] g 0 cap d w (fun _ _ => rfl) hcm hH hO.lt (by omega)
  rw [hds] at h
  refine h.mono ?_
  rintro e w' ⟨rfl, d', n, os, hp, hs, rfl⟩
  have hsz : d'.size = L.length := by have := hp.1; omega
  refine ⟨rfl, d'.toList.map (·.val), ⟨?_, ?_⟩, ?_, ?_⟩
  · have hperm : d'.toList.Perm d.toList := by
      have := hp.2.2
      rw [Array.toList_extract, Array.toList_extract, List.extract_eq_take_drop, List.extract_eq_take_drop] at this
      simp only [List.drop_zero, Nat.sub_zero] at this
      rw [List.take_of_length_le (by simp; omega), List.take_of_length_le (by simp; omega)] at this
      exact this
    refine (hperm.map (·.val)).trans ?_
    rw [← hd]
    refine List.Perm.of_eq ?_
    apply List.ext_getElem <;> simp
  · rw [List.pairwise_iff_getElem]
    intro i k hi hk hik
    have hi' : i < d'.size := by simpa using hi
    have hk' : k < d'.size := by simpa using hk
    have h5 := hs i k (Nat.zero_le _) hik (by omega)
    rw [getElem!_pos d' _ hk', getElem!_pos d' _ hi'] at h5
    have h6 := of_decide_eq_false h5
    simp only [cfI] at h6
    simpa using h6
  · obtain ⟨cur, hc1, hcz, hc2⟩ := hO
    have hgl := (Array.getElem?_eq_some_iff.1 hc1).1
    have he : w.heap[g] = .cells cur 3 (0, 0) := by rw [Array.getElem?_eq_getElem hgl] at hc1; exact Option.some.inj hc1
    have hh : (Go.Sort.putRow (fun i : Fin L.length => nI i.val) (Go.Sort.ahead w n) g 0 d').heap[g]? = some (.cells (Go.Sort.putCells (fun i : Fin L.length => nI i.val) 0 d' cur) 3 (0, 0)) := by
      simp [Go.Sort.putRow, Go.Sort.mapBlock, Go.Sort.ahead, Array.getElem_modify, hgl, he, Go.Sort.onCells]
    refine ⟨_, by unfold sortWorld; rw [Go.Sort.heap_grow_old _ _ (by simpa [Go.Sort.ahead] using hgl)]; exact hh, by simp [Go.Sort.putCells]; rw [hcz]; simp; omega, fun k hk => ?_⟩
    have hk' : k < d'.size := by simpa using hk
    have hkc : k < cur.size := by
      have := hc2 k (by simp; omega)
      exact (Array.getElem?_eq_some_iff.1 this).1
    simp only [Go.Sort.putCells, Array.getElem?_mapIdx, Array.getElem?_eq_getElem hkc, Option.map_some]
    rw [if_pos ⟨Nat.zero_le _, by omega⟩, Nat.sub_zero, getElem!_pos d' _ hk']
    simp
  · refine ⟨rfl, rfl, rfl, by simp [sortWorld, Go.Sort.grow, Go.Sort.ahead], fun b hlt hne2 => ?_⟩
    have hne3 : b ≠ g := fun e => hne2 (by rw [e])
    unfold sortWorld
    rw [Go.Sort.heap_grow_old _ _ (by simpa [Go.Sort.ahead] using hlt)]
    simp [Go.Sort.putRow, Go.Sort.mapBlock, Go.Sort.ahead, Array.getElem?_modify, Ne.symm hne3]
theorem OwnR.ints {w : World} {g : Nat} {is : List Nat} (h : OwnR nI 3 w g is) (hl : is.length ≤ 1000000) : IntR w (.slice (some ⟨g, 0, none⟩) is.length is.length) is := by
  obtain ⟨cur, h1, hz, h2⟩ := h
  refine ⟨by simp, Or.inr ⟨g, is.length, cur, rfl, Nat.zero_le _, h1, Nat.le_refl _, by unfold maxLen; omega, by omega, ?_⟩⟩
  rw [List.take_of_length_le (by simp; omega)]
  apply List.ext_getElem?
  intro k
  by_cases hk : k < is.length
  · rw [Array.getElem?_toList, h2 k hk]
    simp [hk, nI]
  · rw [List.getElem?_eq_none (by simp; omega), List.getElem?_eq_none (by simp; omega)]
set_option maxRecDepth 100000 in
set_option maxHeartbeats 4000000 in
theorem sorted_any (lv : Value) (L : List Ato) (w : World) (hR : LstR w lv L) (hgood : ∀ x ∈ L, Tm.GoodL x.2) (hlen : L.length ≤ 1000000) :
    Calls Tryz.prog 60 #[lv] w fun e w' => ∃ v is, e = .returned v ∧ IntR w' v is ∧ SortedN L is ∧ Below w.heap.size w w' := by
  obtain ⟨xs, ho, hf⟩ := hR
  obtain ⟨la, lc, rfl⟩ := own_slice ho
  obtain ⟨W1, hW1⟩ : ∃ W1, w.alloc (.cells #[.slice la L.length lc] 52) = W1 := ⟨_, rfl⟩
  have hB : Below w.heap.size w W1 := by rw [← hW1]; exact (Below.refl _ w).alloc (Nat.le_refl _) _
  have hx : W1.heap[w.heap.size]? = some (.cells #[.slice la L.length lc] 52 (0, 0)) := by rw [← hW1]; exact World.alloc_heap_new _ _
  obtain ⟨W2, hmk, hO, hB2⟩ := make_ints L.length (by omega) W1
  have hz1 : w.heap.size < W1.heap.size := (Array.getElem?_eq_some_iff.1 hx).1
  obtain ⟨g, hg⟩ : ∃ g, W1.heap.size = g := ⟨_, rfl⟩
  rw [hg] at hmk hO
  rw [← upTo_zero] at hO
  have x0 := cells_at hx 0 _ rfl
  have hx2 := (hB2.block w.heap.size hz1).trans hx
  have HO := Lib.hid hO
  have HX2 := Lib.hid hx2
  have HBW := Lib.hid (hB.trans (hB2.mono hB.size))
  have HG := Lib.hid (show w.heap.size < g by omega)
  have HF := Lib.hid hf
  have HOW := Lib.hid ho
  have HGD := Lib.hid hgood
  have z0 := cells_at hx2 0 _ rfl
  clear hO hx2 hx hB hB2 hf ho hgood hz1 hg
  go_enter Tryz.func60, Tryz.ntmps60
  go_wp2_with fail
  clear hmk x0
  go_loopw [10] (fun i wr => ∃ j : Nat, j ≤ L.length ∧ i = .int .i64 j ∧ OwnR nI 3 wr g (upTo L.length j) ∧ W2.grownBy wr (some g)) (fun i _ => L.length - (intOf i).toNat)
  case atStart => exact ⟨0, by omega, by go_num, HO.out, ⟨rfl, rfl, rfl, Nat.le_refl _, fun _ _ _ => rfl⟩⟩
  case round =>
    obtain ⟨j, hj, rfl, hr, hgb⟩ := hrel
    have HR := Lib.hid hr
    have HGB := Lib.hid hgb
    have i1 : (0 : Int) ≤ (j : Int) := by omega
    clear hr hgb z0
    by_cases hlt : j < L.length
    · have y0 := HR.out.cell j (by rw [upTo_len]; exact hlt)
      have f0 := HR.out.fz j
      have i2 : (j : Int) < (L.length : Int) := by omega
      go_wp2
      go_roundw
      case rel => exact ⟨j + 1, by omega, by go_num, by have := HR.out.set j j; rw [upTo_set] at this; exact this, ⟨HGB.out.os, HGB.out.tape, HGB.out.output, by have := HGB.out.size; simpa using this, fun k hk hne => (heap_setCell_other _ _ _ _ (fun e => hne (by rw [e]))).trans (HGB.out.block k hk hne)⟩⟩
      case measure => simp [intOf]; omega
    · have i2 : ¬ (j : Int) < (L.length : Int) := by omega
      have hje : j = L.length := by omega
      have hO := HR.out
      rw [hje, upTo_all] at hO
      have hbl : ∀ b, b < w.heap.size → wr.heap[b]? = w.heap[b]? := fun b hb => (HGB.out.block b (by have := HBW.out.size; omega) (fun e => by cases e; have := HG.out; omega)).trans (HBW.out.block b hb)
      have hzr : w.heap.size ≤ wr.heap.size := Nat.le_trans HBW.out.size HGB.out.size
      have hxr : wr.heap[w.heap.size]? = some (.cells #[.slice la L.length lc] 52 (0, 0)) := (HGB.out.block _ (Array.getElem?_eq_some_iff.1 HX2.out).1 (fun e => by cases e; have := HG.out; omega)).trans HX2.out
      have hown : wr.ownsRow 0 24 2 (.slice la L.length lc) L.length xs := by
        obtain ⟨q1, q2⟩ := HOW.out
        refine ⟨q1, ?_⟩
        rcases q2 with q2 | ⟨g', cap', cur, e, q3, q4, q5⟩
        · exact Or.inl q2
        · exact Or.inr ⟨g', cap', cur, e, q3, (hbl g' (Array.getElem?_eq_some_iff.1 q4).1).trans q4, q5⟩
      have hbw : Below w.heap.size w wr := ⟨HGB.out.os.trans HBW.out.os, HGB.out.tape.trans HBW.out.tape, HGB.out.output.trans HBW.out.output, hzr, hbl⟩
      have HBR := Lib.hid hbw
      have hgz := HG.out
      by_cases hpos : 0 < L.length
      · have HS := Lib.hid (sortF_any w.heap.size g L.length (.slice la L.length lc) L hpos hlen wr hxr ⟨xs, hown, HF.out.same (fun b h => by omega) (fun b h => hbl b h)⟩ HGD.out hO (fun e => by have := (own_block HOW.out g e).2; omega) (by omega) ⟨xs, hown, HF.out.same (fun b h => ⟨by omega, by omega⟩) (fun b h => hbl b h)⟩)
        clear hbl hzr hxr hown hbw hO hgz hpos
        go_wp2_with (go_at_call 93; refine HS.out.mono ?_; rintro e w5 ⟨rfl, is, q1, q2, q3⟩; have HQ1 := Lib.hid q1; have HQ2 := Lib.hid q2; have HQ3 := Lib.hid q3; clear q1 q2 q3 HS)
        go_ret
        have hil : is.length = L.length := by have := HQ1.out.1.length_eq; simpa using this
        refine ⟨_, is, rfl, ?_, HQ1.out, HBR.out.grown HQ3.out HBR.out.size (fun k e => by cases e; have := HG.out; omega)⟩
        have h1 := HQ2.out.ints (by omega)
        rw [hil] at h1
        exact h1
      · have hL0 : L.length = 0 := by omega
        have hLn : L = [] := List.length_eq_zero_iff.1 hL0
        have HS := Lib.hid (AnyF.slices_SortFunc_none Tryz.sortI0 (some ⟨g, 0, none⟩) 0 (.func (.func 94) #[] #[.pointer (some ⟨w.heap.size, 0, none⟩)]) wr)
        have HIR := Lib.hid (hO.ints (by simp; omega))
        subst hLn
        clear hbl hzr hxr hown hbw hO hgz hpos
        go_wp2_with (go_at_call 93; refine HS.out.mono ?_; rintro e w5 ⟨rfl, rfl⟩)
        go_ret
        exact ⟨_, [], rfl, HIR.out, ⟨by simp, List.Pairwise.nil⟩, HBR.out⟩
end Go.Proofs.YtcoieohbmkjpoaaGreatDoor
namespace Go.Proofs.YtcoieohbmkjpoaaGreatDoor
open Go.RowKit Go.Shelf Go.Maps
attribute [local go_sem] Oper.semAt_some

def fSrt (L : List Ato) : VF := fun v w => ∃ is, IntR w v is ∧ SortedN L is
theorem fSrt_stays (L : List Ato) : Stays (fSrt L) := fun _ _ _ ⟨is, h1, h2⟩ hb => ⟨is, own_grown' h1 hb, h2⟩
def fPick (W : World) (L : List Ato) : VF := fun v w => ∃ is, ResA W w v (pickL L is) ∧ SortedN L is
theorem fPick_stays (W : World) (L : List Ato) : Stays (fPick W L) := fun _ _ _ ⟨is, h1, h2⟩ hb => ⟨is, h1.grow hb, h2⟩
set_option maxRecDepth 100000 in
set_option maxHeartbeats 4000000 in
theorem sorted_gen (sv : Value) (la : Option Addr) (ln lc : Nat) (m1 m2 m3 : Option Nat) (L : List Ato) (w : World)
    (hct : Calls Tryz.prog 54 #[sv] w fun e w'' => e = .returned (.agg #[.slice la ln lc, .map m1, .map m2, .map m3]) ∧ Below w.heap.size w w'')
    (hlr : LstR w (.slice la ln lc) L) (hgd : ∀ x ∈ L, Tm.GoodL x.2) (hln : L.length ≤ 1000000) (hcn : ∀ x ∈ L, cntA x ≤ 1000000) :
    Calls Tryz.prog 25 #[sv] w fun e w' => ∃ v is, e = .returned v ∧ ResA w w' v (pickL L is) ∧ SortedN L is ∧ Below w.heap.size w w' := by
  have HCT := Lib.hid hct
  have HLR0 := Lib.hid hlr
  have HGD := Lib.hid hgd
  have HLN := Lib.hid hln
  have HCN := Lib.hid hcn
  clear hct hlr hgd hln hcn
  go_enter Tryz.func25, Tryz.ntmps25
  go_wp2_with (go_at_call 54; refine HCT.out.mono ?_; rintro e w1 ⟨rfl, hb⟩; have HB1 := Lib.hid hb; clear hb HCT)
  obtain ⟨BX, hBX⟩ : ∃ BX, w1.heap.size = BX := ⟨_, rfl⟩
  obtain ⟨W2, hW2⟩ : ∃ W2, w1.alloc (.cells #[.slice la ln lc, .map m1, .map m2, .map m3] 57) = W2 := ⟨_, rfl⟩
  have hb2 : Below w1.heap.size w1 W2 := by rw [← hW2]; exact (Below.refl _ _).alloc (Nat.le_refl _) _
  have hx : W2.heap[w1.heap.size]? = some (.cells #[.slice la ln lc, .map m1, .map m2, .map m3] 57 (0, 0)) := by rw [← hW2]; exact World.alloc_heap_new _ _
  have hbw : Below w.heap.size w W2 := HB1.out.trans (hb2.mono HB1.out.size)
  have HLR := Lib.hid (HLR0.out.below hbw)
  have HBW := Lib.hid hbw
  rw [hBX] at hx
  have HX := Lib.hid hx
  try rw [hW2]
  try rw [hBX]
  clear hb2 hx hbw hW2 hBX
  have hst := @FL_grow [fV (.pointer (some ⟨BX, 0, none⟩)), fV (.slice la ln lc), fV (.pointer (some ⟨BX, 0, none⟩)), fV (.slice la ln lc), fSrt L, fPick W2 L, fPick W2 L] (by
    intro F hF
    simp only [List.mem_cons, List.not_mem_nil, or_false] at hF
    rcases hF with rfl | rfl | rfl | rfl | rfl | rfl | rfl <;> first | exact fV_stays _ | exact fSrt_stays _ | exact fPick_stays _ _ | exact fPick_stays _ _)
  refine wp_region_grow_orB (by kernel_rfl) (FL [fV (.pointer (some ⟨BX, 0, none⟩)), fV (.slice la ln lc), fV (.pointer (some ⟨BX, 0, none⟩)), fV (.slice la ln lc), fSrt L, fPick W2 L, fPick W2 L]) hst (by kernel_rfl) (steps_or ?_) ?_
  · refine ⟨?_, ?_, ?_, ?_, ?_, ?_, ?_, trivial⟩
    · intro a wx hb hd hs ho hp
      refine Or.inl ⟨rfl, ?_⟩
      have h3 : a.tmps.getD 3 undef = .pointer (some ⟨BX, 0, none⟩) := (ho 3 (by kernel_rfl)).trans rfl
      unfold Oper.wp
      go_simp
      exact Stepped.at (v := .pointer (some ⟨BX, 0, none⟩)) (by first | rfl | simp) hd (Below.refl _ _) rfl
    · intro a wx hb hd hs ho hp
      refine Or.inl ⟨rfl, ?_⟩
      have h6 : a.tmps.getD 6 undef = .pointer (some ⟨BX, 0, none⟩) := facts_at hp 0 6 (by kernel_rfl)
      have hx := (hb.block BX (Array.getElem?_eq_some_iff.1 HX.out).1).trans HX.out
      have x0 := cells_at hx 0 _ rfl
      unfold Oper.wp
      go_simp
      exact Stepped.at (v := .slice la ln lc) (by first | rfl | simp) hd (Below.refl _ _) rfl
    · intro a wx hb hd hs ho hp
      refine Or.inl ⟨rfl, ?_⟩
      have h3 : a.tmps.getD 3 undef = .pointer (some ⟨BX, 0, none⟩) := (ho 3 (by kernel_rfl)).trans rfl
      unfold Oper.wp
      go_simp
      exact Stepped.at (v := .pointer (some ⟨BX, 0, none⟩)) (by first | rfl | simp) hd (Below.refl _ _) rfl
    · intro a wx hb hd hs ho hp
      refine Or.inl ⟨rfl, ?_⟩
      have h8 : a.tmps.getD 8 undef = .pointer (some ⟨BX, 0, none⟩) := facts_at hp 2 8 (by kernel_rfl)
      have hx := (hb.block BX (Array.getElem?_eq_some_iff.1 HX.out).1).trans HX.out
      have x0 := cells_at hx 0 _ rfl
      unfold Oper.wp
      go_simp
      exact Stepped.at (v := .slice la ln lc) (by first | rfl | simp) hd (Below.refl _ _) rfl
    · intro a wx hb hd hs ho hp
      refine Or.inl ⟨rfl, ?_⟩
      have h9 : a.tmps.getD 9 undef = .slice la ln lc := facts_at hp 3 9 (by kernel_rfl)
      have hx := sorted_any (.slice la ln lc) L wx (HLR.out.below hb) HGD.out HLN.out
      unfold Oper.wp
      go_simp
      refine hx.mono ?_
      rintro e w9 ⟨v, is, rfl, q1, q2, hb9⟩
      refine Stepped.at (v := v) rfl hd hb9 ?_
      exact ⟨is, q1, q2⟩
    · intro a wx hb hd hs ho hp
      refine Or.inl ⟨rfl, ?_⟩
      have h7 : a.tmps.getD 7 undef = .slice la ln lc := facts_at hp 1 7 (by kernel_rfl)
      have hv := facts_at hp 4 10 (by kernel_rfl)
      obtain ⟨vv, hvv⟩ : ∃ u, a.tmps.getD 10 undef = u := ⟨_, rfl⟩
      rw [hvv] at hv
      obtain ⟨is, hi, hs2⟩ := hv
      have hx := pick_any (.slice la ln lc) L vv is wx (HLR.out.below hb) hi (fun i h => List.mem_range.1 (hs2.1.mem_iff.1 h)) (by have := hs2.1.length_eq; simp at this; have := HLN.out; omega) HCN.out
      unfold Oper.wp
      go_simp
      refine hx.mono ?_
      rintro e w9 ⟨v, rfl, hr9, hb9⟩
      refine Stepped.at (v := v) rfl hd hb9 ?_
      exact ⟨is, hr9.from hb.size, hs2⟩
    · intro a wx hb hd hs ho hp
      refine Or.inl ⟨rfl, ?_⟩
      have hv := facts_at hp 5 11 (by kernel_rfl)
      obtain ⟨vv, h11⟩ : ∃ u, a.tmps.getD 11 undef = u := ⟨_, rfl⟩
      rw [h11] at hv
      unfold Oper.wp
      go_simp
      refine Stepped.at (v := vv) (by first | rfl | simp) hd (Below.refl _ _) ?_
      exact hv
  intro ac W3 hJ
  obtain ⟨u6, f6⟩ : ∃ u, ac.tmps.getD 6 undef = u := ⟨_, rfl⟩
  obtain ⟨u7, f7⟩ : ∃ u, ac.tmps.getD 7 undef = u := ⟨_, rfl⟩
  obtain ⟨u8, f8⟩ : ∃ u, ac.tmps.getD 8 undef = u := ⟨_, rfl⟩
  obtain ⟨u9, f9⟩ : ∃ u, ac.tmps.getD 9 undef = u := ⟨_, rfl⟩
  obtain ⟨u10, f10⟩ : ∃ u, ac.tmps.getD 10 undef = u := ⟨_, rfl⟩
  obtain ⟨u11, f11⟩ : ∃ u, ac.tmps.getD 11 undef = u := ⟨_, rfl⟩
  have g2 := hJ.at_end 6 2 (by kernel_rfl)
  obtain ⟨v2, f2⟩ : ∃ u, ac.tmps.getD 2 undef = u := ⟨_, rfl⟩
  rw [f2] at g2
  have hBelow := hJ.below
  obtain ⟨TT, DD⟩ := ac
  obtain rfl : DD = [] := hJ.defers
  have hE := slots_merge [false, false, true, false, false, false, true, true, true, true, true, true] 12 hJ.tmps rfl (by kernel_rfl) hJ.outer
  simp only [mergeFrom, Nat.zero_add, Nat.reduceAdd, f6, f7, f8, f9, f10, f11, f2] at hE
  clear hst hJ f6 f7 f8 f9 f10 f11 f2
  subst hE
  have HBE := Lib.hid (HBW.out.trans (hBelow.mono HBW.out.size))
  obtain ⟨is, g2a, g2b⟩ := g2
  have HRE := Lib.hid (ResA.from g2a HBW.out.size)
  have HSE := Lib.hid g2b
  clear hBelow g2a g2b
  go_wp2
  go_ret
  exact ⟨v2, is, rfl, HRE.out, HSE.out, HBE.out⟩
end Go.Proofs.YtcoieohbmkjpoaaGreatDoor
namespace Go.Proofs.YtcoieohbmkjpoaaGreatDoor
open Go.RowKit Go.Shelf Go.Maps

def tN (n : Int) : Tm := .mk 1 n ⟨#[]⟩ []
def tS (b : UInt8) : Tm := .mk 2 0 ⟨#[b]⟩ []
def tF : Tm := .mk 4 0 ⟨#[102]⟩ [tN 1]
def bP : ByteArray := ⟨#[112]⟩
def bQ : ByteArray := ⟨#[113]⟩
def x1 : Ato := (bP, [tN 1, tS 97])
def x2 : Ato := (bP, [tN 2, tS 97])
def x3 : Ato := (bP, [tF, tS 98])
def x4 : Ato := (bQ, [])
def xV : Ato := (bP, [.mk 3 0 ⟨#[88]⟩ []])
theorem valid1 : validA x1 = true := by decide +kernel
theorem valid2 : validA x2 = true := by decide +kernel
theorem valid3 : validA x3 = true := by decide +kernel
theorem valid4 : validA x4 = true := by decide +kernel
theorem validV : validA xV = false := by decide +kernel
theorem ne_of_same {x y : Ato} (h : sameA x y = false) : x ≠ y := fun e => by rw [(sameA_iff x y).2 e] at h; cases h
theorem ne12 : x1 ≠ x2 := ne_of_same (by decide +kernel)
theorem ne13 : x1 ≠ x3 := ne_of_same (by decide +kernel)
theorem ne14 : x1 ≠ x4 := ne_of_same (by decide +kernel)
theorem ne23 : x2 ≠ x3 := ne_of_same (by decide +kernel)
theorem ne24 : x2 ≠ x4 := ne_of_same (by decide +kernel)
theorem ne34 : x3 ≠ x4 := ne_of_same (by decide +kernel)
def LW : List Ato := [x1, x4, x2, x1, x3]
def LA : List Ato := [x1, x4, x2, x3]
theorem addAll_w : addAll [] LW = LA := by
  simp [addAll, LW, LA, addL, valid1, valid2, valid3, valid4, ne12, ne14, ne24, ne34, ne12.symm, ne13.symm, ne14.symm, ne23.symm]
theorem okAll_w : okAll [] LW = true := by
  simp [okAll, LW, addL, addR, valid1, valid2, valid3, valid4, ne12, ne14, ne24, ne34, ne12.symm, ne13.symm, ne14.symm, ne23.symm]
theorem addR_V : addR LA xV = (false, 2) := by simp [addR, validV]
theorem addL_V : addL LA xV = LA := by simp [addL, validV]
def gP : Sig := (bP, 2)
def gQ : Sig := (bQ, 0)
theorem sgs_w : LA.map sgOf = [gP, gQ, gP, gP] := rfl
theorem all_w : pickL LA (ix (qS gP) LA) = [x1, x2, x3] := by
  have h : ix (qS gP) LA = [0, 2, 3] := by decide +kernel
  rw [h]; rfl
end Go.Proofs.YtcoieohbmkjpoaaGreatDoor
namespace Go.Proofs.YtcoieohbmkjpoaaGreatDoor
open Go.RowKit Go.Shelf Go.Maps

def pA : Pla := (gP, 1, (tS 97).str)
theorem qP_iff (p : Pla) (x : Ato) : qP p x = true ↔ p ∈ places x := by unfold qP; exact @decide_eq_true_iff _ (Classical.propDecidable _)
instance plaDec (p : Pla) (L : List Pla) : Decidable (p ∈ L) := @List.instDecidableMemOfLawfulBEq Pla instBEqOfDecidableEq inferInstance p L
theorem find_w : pickL LA (ix (qP pA) LA) = [x1, x2] := by
  have h1 : qP pA x1 = true := (qP_iff _ _).2 (by decide +kernel)
  have h2 : qP pA x2 = true := (qP_iff _ _).2 (by decide +kernel)
  have h3 : qP pA x3 = false := by
    cases h : qP pA x3 with
    | false => rfl
    | true => exact absurd ((qP_iff _ _).1 h) (by decide +kernel)
  have h4 : qP pA x4 = false := by
    cases h : qP pA x4 with
    | false => rfl
    | true => exact absurd ((qP_iff _ _).1 h) (by decide +kernel)
  have h : ix (qP pA) LA = [0, 2] := by
    unfold ix
    show (List.filter _ [0, 1, 2, 3]) = _
    simp [List.filter, LA, h1, h2, h3, h4]
  rw [h]; rfl
def ltW (i k : Nat) : Bool := decide (cmpA ((LA[k]?).getD (⟨#[]⟩, [])) ((LA[i]?).getD (⟨#[]⟩, [])) < 0)
def okW (a b c d : Fin 4) : Bool := a != b && a != c && a != d && b != c && b != d && c != d && !ltW a.val b.val && !ltW a.val c.val && !ltW a.val d.val && !ltW b.val c.val && !ltW b.val d.val && !ltW c.val d.val
theorem perm4 : ∀ a b c d : Fin 4, okW a b c d = true → a = 0 ∧ b = 2 ∧ c = 3 ∧ d = 1 := by decide +kernel
theorem sorted_w {is : List Nat} (h : SortedN LA is) : pickL LA is = [x1, x2, x3, x4] := by
  obtain ⟨hp, hs⟩ := h
  have hlen : is.length = 4 := by rw [hp.length_eq]; rfl
  have hnd : is.Nodup := hp.nodup_iff.2 List.nodup_range
  have hlt : ∀ i ∈ is, i < 4 := fun i hi => by
    have := (hp.mem_iff (a := i)).1 hi
    exact List.mem_range.1 this
  match is, hlen, hnd, hlt, hs with
  | [a, b, c, d], _, hnd, hlt, hs =>
    simp only [List.nodup_cons, List.mem_cons, List.not_mem_nil, or_false, not_or, List.nodup_nil, and_true, not_false_eq_true] at hnd
    simp only [List.pairwise_cons, List.mem_cons, List.not_mem_nil, or_false, forall_eq_or_imp, forall_eq, false_implies, implies_true, List.Pairwise.nil, and_true] at hs
    obtain ⟨⟨n1, n2, n3⟩, ⟨n4, n5⟩, n6⟩ := hnd
    obtain ⟨⟨s1, s2, s3⟩, ⟨s4, s5⟩, s6⟩ := hs
    have la := hlt a (by simp)
    have lb := hlt b (by simp)
    have lc := hlt c (by simp)
    have ld := hlt d (by simp)
    have s1 : ltW a b = false := decide_eq_false s1
    have s2 : ltW a c = false := decide_eq_false s2
    have s3 : ltW a d = false := decide_eq_false s3
    have s4 : ltW b c = false := decide_eq_false s4
    have s5 : ltW b d = false := decide_eq_false s5
    have s6 : ltW c d = false := decide_eq_false s6
    have h := perm4 ⟨a, la⟩ ⟨b, lb⟩ ⟨c, lc⟩ ⟨d, ld⟩ (by simp [okW, s1, s2, s3, s4, s5, s6, n1, n2, n3, n4, n5, n6])
    simp only [Fin.ext_iff] at h
    obtain ⟨h1, h2, h3, h4⟩ := h
    have h1 : a = 0 := h1
    have h2 : b = 2 := h2
    have h3 : c = 3 := h3
    have h4 : d = 1 := h4
    subst h1 h2 h3 h4
    rfl
theorem small_w (xs : List Sig) (hn : xs.Nodup) (hx : ∀ x ∈ xs, x ∈ LA.map sgOf) : xs.length ≤ 2 := by
  have hm : ∀ x ∈ xs, x = gP ∨ x = gQ := fun x h => by
    have := hx x h
    rw [sgs_w] at this
    simp only [List.mem_cons, List.not_mem_nil, or_false] at this
    rcases this with h | h | h | h <;> simp [h]
  match xs, hn, hm with
  | [], _, _ => simp
  | [_], _, _ => simp
  | [_, _], _, _ => simp
  | a :: b :: c :: l, hn, hm =>
    have h1 := hm a (by simp)
    have h2 := hm b (by simp)
    have h3 := hm c (by simp)
    simp only [List.nodup_cons, List.mem_cons, not_or] at hn
    obtain ⟨⟨n1, n2, _⟩, ⟨n3, _⟩, _⟩ := hn
    rcases h1 with rfl | rfl <;> rcases h2 with rfl | rfl <;> rcases h3 with rfl | rfl <;> simp_all
theorem sigs_w {ys : List Sig} (hm : ∀ x, x ∈ ys ↔ x ∈ LA.map sgOf) (hn : ys.Nodup) (hp : ys.Pairwise fun a b => cmpG a b < 0) : ys = [gP, gQ] := by
  have hl := small_w ys hn fun x h => (hm x).1 h
  have hP : gP ∈ ys := (hm _).2 (by rw [sgs_w]; simp)
  have hQ : gQ ∈ ys := (hm _).2 (by rw [sgs_w]; simp)
  have hne : gP ≠ gQ := by decide +kernel
  have hlt : ¬ cmpG gQ gP < 0 := by decide +kernel
  match ys, hl, hP, hQ, hp with
  | [a], _, hP, hQ, _ =>
    simp only [List.mem_singleton] at hP hQ
    exact absurd (hP.trans hQ.symm) hne
  | [a, b], _, hP, hQ, hp =>
    simp only [List.mem_cons, List.not_mem_nil, or_false] at hP hQ
    simp only [List.pairwise_cons, List.mem_singleton, forall_eq] at hp
    rcases hP with rfl | rfl
    · rcases hQ with h | rfl
      · exact absurd h.symm hne
      · rfl
    · rcases hQ with rfl | h
      · exact absurd hp.1 hlt
      · exact absurd h.symm hne
end Go.Proofs.YtcoieohbmkjpoaaGreatDoor
namespace Go.Proofs.YtcoieohbmkjpoaaGreatDoor
open Go.RowKit Go.Shelf Go.Maps

theorem below_then {X Y Z : World} (h : Below X.heap.size X Y) (k : Below Y.heap.size Y Z) : Below X.heap.size X Z := h.trans (k.mono h.size)
theorem below_alloc {X Y Z : World} {o : Obj} (h : Below (X.alloc o).heap.size (X.alloc o) Y) (k : Below Y.heap.size Y Z) : Below X.heap.size X Z :=
  ((Below.refl _ X).alloc (Nat.le_refl _) o).trans ((h.mono (by simp)).trans (k.mono (Nat.le_trans (by simp) h.size)))
theorem row_of {X Y Z : World} {o : Obj} (h : Below (X.alloc o).heap.size (X.alloc o) Y) (k : Below Y.heap.size Y Z) : Z.heap[X.heap.size]? = some o := by
  have h1 : Y.heap[X.heap.size]? = some o := (h.block _ (by simp)).trans (World.alloc_heap_new _ _)
  exact (k.block _ (Array.getElem?_eq_some_iff.1 h1).1).trans h1
theorem tmS_leaf (S : Nat → Prop) (W : World) (k n : Int) (s : ByteArray) (hk : 0 ≤ k ∧ k ≤ 255) (hn : I64 n) (hs : s.size ≤ maxLen) : TmS S W (.int .u8 k) (.int .i64 n) (.string s) (.slice none 0 0) (.mk k n s []) := by
  simp only [TmS]
  exact ⟨trivial, hk, trivial, hn, trivial, hs, none, 0, rfl, by simp, fun h => absurd rfl h⟩
theorem atTwo {S : Nat → Prop} {W : World} {g : Nat} {a0 a1 a2 a3 b0 b1 b2 b3 : Value} {ty : TypeId} {p : ByteArray} {t u : Tm} (hg : W.heap[g]? = some (.cells #[a0, a1, a2, a3, b0, b1, b2, b3] ty (0, 0))) (hS : S g) (hp : p.size ≤ maxLen) (ha : TmS S W a0 a1 a2 a3 t) (hb : TmS S W b0 b1 b2 b3 u) : AtS S W (.string p) (.slice (some ⟨g, 0, none⟩) 2 2) (p, [t, u]) := by
  refine ⟨rfl, hp, some ⟨g, 0, none⟩, 2, rfl, by unfold maxLen; simp, fun _ => ⟨g, 0, rfl, hS, ?_⟩⟩
  simp only [TmsS]
  exact ⟨a0, a1, a2, a3, cells_at hg 0 _ rfl, cells_at hg 1 _ rfl, cells_at hg 2 _ rfl, cells_at hg 3 _ rfl, ha, b0, b1, b2, b3, cells_at hg 4 _ rfl, cells_at hg 5 _ rfl, cells_at hg 6 _ rfl, cells_at hg 7 _ rfl, hb, trivial⟩
theorem tmS_one {S : Nat → Prop} {W : World} {g : Nat} {a0 a1 a2 a3 : Value} {ty : TypeId} {k n : Int} {s : ByteArray} {t : Tm} (hg : W.heap[g]? = some (.cells #[a0, a1, a2, a3] ty (0, 0))) (hS : S g) (hk : 0 ≤ k ∧ k ≤ 255) (hn : I64 n) (hs : s.size ≤ maxLen) (ha : TmS S W a0 a1 a2 a3 t) : TmS S W (.int .u8 k) (.int .i64 n) (.string s) (.slice (some ⟨g, 0, none⟩) 1 1) (.mk k n s [t]) := by
  simp only [TmS]
  refine ⟨trivial, hk, trivial, hn, trivial, hs, some ⟨g, 0, none⟩, 1, rfl, by unfold maxLen; simp, fun _ => ⟨g, 0, rfl, hS, ?_⟩⟩
  simp only [TmsS]
  exact ⟨a0, a1, a2, a3, cells_at hg 0 _ rfl, cells_at hg 1 _ rfl, cells_at hg 2 _ rfl, cells_at hg 3 _ rfl, ha, trivial⟩
theorem atNone (S : Nat → Prop) (W : World) (p : ByteArray) (hp : p.size ≤ maxLen) : AtS S W (.string p) (.slice none 0 0) (p, []) := ⟨rfl, hp, none, 0, rfl, by simp, fun h => absurd rfl h⟩
end Go.Proofs.YtcoieohbmkjpoaaGreatDoor
namespace Go.Proofs.YtcoieohbmkjpoaaGreatDoor
open Go.RowKit Go.Shelf Go.Maps

theorem all_row {w : World} {B S : Nat} {lab : Lab} {L : List Ato} (hI : StI w B lab S L) (g : Sig) (hg : SigOk g) :
    Calls Tryz.prog 22 #[.pointer (some ⟨S, 0, none⟩), .agg #[.string g.1, .int .i64 g.2]] w fun e w' => ∃ v, e = .returned v ∧ ResA w w' v (pickL L (ix (qS g) L)) ∧ Below w.heap.size w w' := by
  obtain ⟨la, lc, m1, m2, m3, h0, hn, hs, ⟨n3, ha⟩, hl⟩ := hI.row
  exact all_gen (.pointer (some ⟨S, 0, none⟩)) la L.length lc (some m1) (some m2) (some m3) L (ix (qS g) L) g w (fun w' hb => content_row S la L.length lc _ _ _ w' ((hb.block S (Array.getElem?_eq_some_iff.1 h0).1).trans h0)) hl.read (fun wx hb => look_sig hs hb g hg) (fun i hi => ix_lt hi) (by have := ix_len (qS g) L; have := hI.len; omega) (fun x hx => (hI.good x hx).2)
theorem find_row {w : World} {B S : Nat} {lab : Lab} {L : List Ato} (hI : StI w B lab S L) (g : Sig) (arg : Int) (t : Tm) (c0 c1 c2 c3 : Value) (hg : PlaOk (g, arg, t.str)) (htm : IsTm w.heap.size w c0 c1 c2 c3 t) (htc : t.count ≤ 1000000) :
    Calls Tryz.prog 24 #[.pointer (some ⟨S, 0, none⟩), .agg #[.string g.1, .int .i64 g.2], .int .i64 arg, .agg #[c0, c1, c2, c3]] w fun e w' => ∃ v, e = .returned v ∧ ResA w w' v (pickL L (ix (qP (g, arg, t.str)) L)) ∧ Below w.heap.size w w' := by
  obtain ⟨la, lc, m1, m2, m3, h0, hn, hs, ⟨n3, ha⟩, hl⟩ := hI.row
  exact find_gen (.pointer (some ⟨S, 0, none⟩)) la L.length lc (some m1) (some m2) (some m3) L (ix (qP (g, arg, t.str)) L) g arg t c0 c1 c2 c3 w (fun w' hb => content_row S la L.length lc _ _ _ w' ((hb.block S (Array.getElem?_eq_some_iff.1 h0).1).trans h0)) hl.read (fun wx hb => look_pla ha hb (g, arg, t.str) hg) (fun i hi => ix_lt hi) (by have := ix_len (qP (g, arg, t.str)) L; have := hI.len; omega) (fun x hx => (hI.good x hx).2) htm htc hI.tab
theorem sorted_row {w : World} {B S : Nat} {lab : Lab} {L : List Ato} (hI : StI w B lab S L) (hgd : ∀ x ∈ L, Tm.GoodL x.2) :
    Calls Tryz.prog 25 #[.pointer (some ⟨S, 0, none⟩)] w fun e w' => ∃ v is, e = .returned v ∧ ResA w w' v (pickL L is) ∧ SortedN L is ∧ Below w.heap.size w w' := by
  obtain ⟨la, lc, m1, m2, m3, h0, hn, hs, ⟨n3, ha⟩, hl⟩ := hI.row
  exact sorted_gen (.pointer (some ⟨S, 0, none⟩)) la L.length lc (some m1) (some m2) (some m3) L w (content_row S la L.length lc _ _ _ w h0) hl.read hgd (by have := hI.len; omega) (fun x hx => (hI.good x hx).2)
theorem sameAtom_self (x : Ato) (v0 v1 u0 u1 : Value) (w : World) (h : AtS (fun b => b < w.heap.size) w v0 v1 x) (h' : AtS (fun b => b < w.heap.size) w u0 u1 x) :
    Calls Tryz.prog 20 #[.agg #[v0, v1], .agg #[u0, u1]] w fun e w' => e = .returned (.bool true) ∧ Below w.heap.size w w' := by
  have h := sameAtom_any x x v0 v1 u0 u1 w h h'
  rwa [(sameA_iff x x).2 rfl] at h
theorem sameAtoms_self (L : List Ato) (lv lv' : Value) (w : World) (h : LstR w lv L) (h' : LstR w lv' L) : Calls Tryz.prog 21 #[lv, lv'] w fun e w' => e = .returned (.bool true) ∧ Below w.heap.size w w' := by
  have h := sameAtoms_any L L lv lv' w h h'
  rwa [(sameAL_iff L L).2 rfl] at h
theorem sameSigs_self (L : List Sig) (lv lv' : Value) (w : World) (h : SgR w lv L) (h' : SgR w lv' L) : Calls Tryz.prog 37 #[lv, lv'] w fun e w' => e = .returned (.bool true) ∧ Below w.heap.size w w' := by
  have h := sameSigs_any L L lv lv' w h h'
  rwa [(sameSL_iff L L).2 rfl] at h
def fLst (L : List Ato) : VF := fun v w => LstR w v L
theorem fLst_stays (L : List Ato) : Stays (fLst L) := fun _ _ _ h hb => h.below hb
def fSgR (l : List Sig) : VF := fun v w => SgR w v l
theorem fSgR_stays (l : List Sig) : Stays (fSgR l) := fun _ _ _ h hb => SgR.below h hb
theorem goodW : ∀ x ∈ LA, Tm.GoodL x.2 := by
  intro x hx
  simp only [LA, List.mem_cons, List.not_mem_nil, or_false] at hx
  rcases hx with rfl | rfl | rfl | rfl <;> simp [x1, x2, x3, x4, tN, tS, tF, Tm.GoodL, Tm.Good]
/-- What awake's store answers. -/
theorem awake_all {w : World} {B S : Nat} {lab : Lab} (hI : StI w B lab S LA) : Calls Tryz.prog 22 #[.pointer (some ⟨S, 0, none⟩), .agg #[.string ⟨#[112]⟩, .int .i64 2]] w fun e w' => ∃ v, e = .returned v ∧ LstR w' v [x1, x2, x3] ∧ Below w.heap.size w w' := by
  refine (all_row hI gP ⟨by decide, by decide⟩).mono ?_
  rintro e w' ⟨v, rfl, h1, h2⟩
  rw [all_w] at h1
  exact ⟨v, rfl, h1.read, h2⟩
theorem awake_find {w : World} {B S : Nat} {lab : Lab} (hI : StI w B lab S LA) : Calls Tryz.prog 24 #[.pointer (some ⟨S, 0, none⟩), .agg #[.string ⟨#[112]⟩, .int .i64 2], .int .i64 1, .agg #[.int .u8 2, .int .i64 0, .string ⟨#[97]⟩, .slice none 0 0]] w fun e w' => ∃ v, e = .returned v ∧ LstR w' v [x1, x2] ∧ Below w.heap.size w w' := by
  refine (find_row hI gP 1 (tS 97) _ _ _ _ ⟨⟨by decide, by decide⟩, by unfold I64; decide +kernel, by decide +kernel⟩ ((tmS_leaf (fun b => b < w.heap.size) w 2 0 ⟨#[97]⟩ (by omega) (by unfold I64; decide +kernel) (by decide)).toIs fun _ h => h) (by decide +kernel)).mono ?_
  rintro e w' ⟨v, rfl, h1, h2⟩
  have h1' : ResA w w' v (pickL LA (ix (qP pA) LA)) := h1
  rw [find_w] at h1'
  exact ⟨v, rfl, h1'.read, h2⟩
theorem awake_sigs {w : World} {B S : Nat} {lab : Lab} (hI : StI w B lab S LA) : Calls Tryz.prog 29 #[.pointer (some ⟨S, 0, none⟩)] w fun e w' => ∃ v, e = .returned v ∧ SgR w' v [gP, gQ] ∧ Below w.heap.size w w' := by
  refine (sigs_row B S lab LA w hI small_w).mono ?_
  rintro e w' ⟨v, rfl, ys, h1, h2, h3, h4, h5⟩
  rw [sigs_w h1 h2 h3] at h4
  refine ⟨v, rfl, ?_, h5⟩
  obtain ⟨q1, q2⟩ := h4
  exact ⟨q1, q2.imp id fun ⟨g, cap, cur, r1, _, r3⟩ => ⟨g, cap, cur, r1, Nat.zero_le _, r3⟩⟩
theorem awake_sorted {w : World} {B S : Nat} {lab : Lab} (hI : StI w B lab S LA) : Calls Tryz.prog 25 #[.pointer (some ⟨S, 0, none⟩)] w fun e w' => ∃ v, e = .returned v ∧ LstR w' v [x1, x2, x3, x4] ∧ Below w.heap.size w w' := by
  refine (sorted_row hI goodW).mono ?_
  rintro e w' ⟨v, is, rfl, h1, h2, h3⟩
  rw [sorted_w h2] at h1
  exact ⟨v, rfl, h1.read, h3⟩
end Go.Proofs.YtcoieohbmkjpoaaGreatDoor
namespace Go.Proofs.YtcoieohbmkjpoaaGreatDoor
open Go.RowKit Go.Shelf Go.Maps
attribute [local go_sem] Oper.semAt_some

set_option maxRecDepth 100000 in
set_option maxHeartbeats 8000000 in
theorem awake11_any (w : World) (hT : Tab10 w) : Calls Tryz.prog 9 #[] w fun e w' => e = .returned (.bool true) ∧ Below w.heap.size w w' := by
  have HT := Lib.hid hT
  have HQ0 := Lib.hid (trivial : True)
  clear hT
  go_enter Tryz.func9, Tryz.ntmps9
  refine wp_seq_k fun K0 hK0 => ?_
  have HK0 := Lib.hid hK0
  clear hK0
  go_wp2_with fail
  refine HK0.out _ _ ?_
  clear HK0
  refine wp_seq_k fun K1 hK1 => ?_
  have HK1 := Lib.hid hK1
  clear hK1
  go_wp2_with (first
    | (have _ := HQ0.out; go_at_call 33; refine (num11_any 1 _).mono ?_; rintro e w1 ⟨rfl, hb1⟩; have HB1 := Lib.hid hb1; have HQ1 := Lib.hid (trivial : True); clear hb1 HQ0)
    | (have _ := HQ1.out; go_at_call 34; refine (sym11_any ⟨#[97]⟩ _).mono ?_; rintro e w2 ⟨rfl, hb2⟩; have HB2 := Lib.hid hb2; have HQ2 := Lib.hid (trivial : True); clear hb2 HQ1)
    | (have _ := HQ2.out; go_at_call 32; refine (atom11_any ⟨#[112]⟩ _ 2 2 _).mono ?_; rintro e w3 ⟨rfl, hb3⟩; have HB3 := Lib.hid hb3; have HQ3 := Lib.hid (trivial : True); clear hb3 HQ2)
    | (have _ := HQ3.out; go_at_call 33; refine (num11_any 2 _).mono ?_; rintro e w4 ⟨rfl, hb4⟩; have HB4 := Lib.hid hb4; have HQ4 := Lib.hid (trivial : True); clear hb4 HQ3)
    | (have _ := HQ4.out; go_at_call 34; refine (sym11_any ⟨#[97]⟩ _).mono ?_; rintro e w5 ⟨rfl, hb5⟩; have HB5 := Lib.hid hb5; have HQ5 := Lib.hid (trivial : True); clear hb5 HQ4)
    | (have _ := HQ5.out; go_at_call 32; refine (atom11_any ⟨#[112]⟩ _ 2 2 _).mono ?_; rintro e w6 ⟨rfl, hb6⟩; have HB6 := Lib.hid hb6; have HQ6 := Lib.hid (trivial : True); clear hb6 HQ5)
    | (have _ := HQ6.out; go_at_call 33; refine (num11_any 1 _).mono ?_; rintro e w7 ⟨rfl, hb7⟩; have HB7 := Lib.hid hb7; have HQ7 := Lib.hid (trivial : True); clear hb7 HQ6)
    | (have _ := HQ7.out; go_at_call 35; refine (fun11_any ⟨#[102]⟩ _ 1 1 _).mono ?_; rintro e w8 ⟨rfl, hb8⟩; have HB8 := Lib.hid hb8; have HQ8 := Lib.hid (trivial : True); clear hb8 HQ7)
    | (have _ := HQ8.out; go_at_call 34; refine (sym11_any ⟨#[98]⟩ _).mono ?_; rintro e w9 ⟨rfl, hb9⟩; have HB9 := Lib.hid hb9; have HQ9 := Lib.hid (trivial : True); clear hb9 HQ8)
    | (have _ := HQ9.out; go_at_call 32; refine (atom11_any ⟨#[112]⟩ _ 2 2 _).mono ?_; rintro e w10 ⟨rfl, hb10⟩; have HB10 := Lib.hid hb10; have HQ10 := Lib.hid (trivial : True); clear hb10 HQ9)
    | (have _ := HQ10.out; go_at_call 32; refine (atom11_any ⟨#[113]⟩ none 0 0 _).mono ?_; rintro e w11 ⟨rfl, hb11⟩; have HB11 := Lib.hid hb11; have HQ11 := Lib.hid (trivial : True); clear hb11 HQ10))
  obtain ⟨W, hW⟩ : ∃ W, (((w11.alloc (.cells #[.string ⟨#[112]⟩, .slice (some ⟨w2.heap.size, 0, none⟩) 2 2] 24)).alloc (.cells #[.string ⟨#[112]⟩, .slice (some ⟨w5.heap.size, 0, none⟩) 2 2] 24)).alloc (.cells #[.string ⟨#[112]⟩, .slice (some ⟨w9.heap.size, 0, none⟩) 2 2] 24)).alloc (.cells #[.string ⟨#[113]⟩, .slice none 0 0] 24) = W := ⟨_, rfl⟩
  have b11 : Below w11.heap.size w11 W := by rw [← hW]; exact ((((Below.refl _ _).alloc (Nat.le_refl _) _).alloc (by simp) _).alloc (by simp <;> omega) _).alloc (by simp <;> omega) _
  have k4 : W.heap[w11.heap.size + 1 + 1 + 1]? = some (.cells #[.string ⟨#[113]⟩, .slice none 0 0] 24 (0, 0)) := by rw [← hW]; have := World.alloc_heap_new (((w11.alloc (.cells #[.string ⟨#[112]⟩, .slice (some ⟨w2.heap.size, 0, none⟩) 2 2] 24)).alloc (.cells #[.string ⟨#[112]⟩, .slice (some ⟨w5.heap.size, 0, none⟩) 2 2] 24)).alloc (.cells #[.string ⟨#[112]⟩, .slice (some ⟨w9.heap.size, 0, none⟩) 2 2] 24)) (.cells #[.string ⟨#[113]⟩, .slice none 0 0] 24); simpa [World.size_alloc] using this
  have k3 : W.heap[w11.heap.size + 1 + 1]? = some (.cells #[.string ⟨#[112]⟩, .slice (some ⟨w9.heap.size, 0, none⟩) 2 2] 24 (0, 0)) := by rw [← hW]; refine (Below.heap_alloc _ _ _ (by simp)).trans ?_; have := World.alloc_heap_new ((w11.alloc (.cells #[.string ⟨#[112]⟩, .slice (some ⟨w2.heap.size, 0, none⟩) 2 2] 24)).alloc (.cells #[.string ⟨#[112]⟩, .slice (some ⟨w5.heap.size, 0, none⟩) 2 2] 24)) (.cells #[.string ⟨#[112]⟩, .slice (some ⟨w9.heap.size, 0, none⟩) 2 2] 24); simpa [World.size_alloc] using this
  have k2 : W.heap[w11.heap.size + 1]? = some (.cells #[.string ⟨#[112]⟩, .slice (some ⟨w5.heap.size, 0, none⟩) 2 2] 24 (0, 0)) := by rw [← hW]; refine (Below.heap_alloc _ _ _ (by simp <;> omega)).trans ((Below.heap_alloc _ _ _ (by simp)).trans ?_); have := World.alloc_heap_new (w11.alloc (.cells #[.string ⟨#[112]⟩, .slice (some ⟨w2.heap.size, 0, none⟩) 2 2] 24)) (.cells #[.string ⟨#[112]⟩, .slice (some ⟨w5.heap.size, 0, none⟩) 2 2] 24); simpa [World.size_alloc] using this
  have k1 : W.heap[w11.heap.size]? = some (.cells #[.string ⟨#[112]⟩, .slice (some ⟨w2.heap.size, 0, none⟩) 2 2] 24 (0, 0)) := by rw [← hW]; exact (Below.heap_alloc _ _ _ (by simp <;> omega)).trans ((Below.heap_alloc _ _ _ (by simp <;> omega)).trans ((Below.heap_alloc _ _ _ (by simp)).trans (World.alloc_heap_new _ _)))
  rw [hW]
  have b10 := below_then HB11.out b11
  have r9 := row_of HB10.out b10
  have b9 := below_alloc HB10.out b10
  have b8 := below_then HB9.out b9
  have r7 := row_of HB8.out b8
  have b7 := below_alloc HB8.out b8
  have b6 := below_then HB7.out b7
  have r5 := row_of HB6.out b6
  have b5 := below_alloc HB6.out b6
  have b4 := below_then HB5.out b5
  have b3 := below_then HB4.out b4
  have r2 := row_of HB3.out b3
  have b2 := below_alloc HB3.out b3
  have b1 := below_then HB2.out b2
  have b0 := below_then HB1.out b1
  clear hW b1 b2 b3 b4 b5 b6 b7 b8 b9 b10 b11 HB1 HB2 HB3 HB4 HB5 HB6 HB7 HB8 HB9 HB10 HB11 HQ11
  have lt : ∀ {k : Nat} {o : Obj}, W.heap[k]? = some o → k < W.heap.size := fun h => (Array.getElem?_eq_some_iff.1 h).1
  have A1 : AtS (fun b => b < W.heap.size) W (.string bP) (.slice (some ⟨w2.heap.size, 0, none⟩) 2 2) x1 := atTwo r2 (lt r2) (by decide) (tmS_leaf _ _ 1 1 ⟨#[]⟩ (by omega) (by unfold I64; decide +kernel) (by decide)) (tmS_leaf _ _ 2 0 ⟨#[97]⟩ (by omega) (by unfold I64; decide +kernel) (by decide))
  have A2 : AtS (fun b => b < W.heap.size) W (.string bP) (.slice (some ⟨w5.heap.size, 0, none⟩) 2 2) x2 := atTwo r5 (lt r5) (by decide) (tmS_leaf _ _ 1 2 ⟨#[]⟩ (by omega) (by unfold I64; decide +kernel) (by decide)) (tmS_leaf _ _ 2 0 ⟨#[97]⟩ (by omega) (by unfold I64; decide +kernel) (by decide))
  have A3 : AtS (fun b => b < W.heap.size) W (.string bP) (.slice (some ⟨w9.heap.size, 0, none⟩) 2 2) x3 := atTwo r9 (lt r9) (by decide) (tmS_one r7 (lt r7) (by omega) (by unfold I64; decide +kernel) (by decide) (tmS_leaf _ _ 1 1 ⟨#[]⟩ (by omega) (by unfold I64; decide +kernel) (by decide))) (tmS_leaf _ _ 2 0 ⟨#[98]⟩ (by omega) (by unfold I64; decide +kernel) (by decide))
  have A4 : AtS (fun b => b < W.heap.size) W (.string bQ) (.slice none 0 0) x4 := atNone _ _ _ (by decide)
  have hTW := HT.out.below b0
  obtain ⟨g1, hg1⟩ : ∃ g, w2.heap.size = g := ⟨_, rfl⟩
  obtain ⟨g2, hg2⟩ : ∃ g, w5.heap.size = g := ⟨_, rfl⟩
  obtain ⟨g3, hg3⟩ : ∃ g, w9.heap.size = g := ⟨_, rfl⟩
  obtain ⟨m, hm⟩ : ∃ g, w11.heap.size = g := ⟨_, rfl⟩
  rw [hg1] at A1 k1 ⊢
  rw [hg2] at A2 k2 ⊢
  rw [hg3] at A3 k3 ⊢
  rw [hm] at k1 k2 k3 k4 ⊢
  have HA := Lib.hid (And.intro A1 (And.intro A2 (And.intro A3 A4)))
  have HKK := Lib.hid (And.intro k1 (And.intro k2 (And.intro k3 k4)))
  have HB0 := Lib.hid b0
  have HTW := Lib.hid hTW
  clear A1 A2 A3 A4 k1 k2 k3 k4 b0 hTW r2 r5 r7 r9 hg1 hg2 hg3 hm lt
  refine HK1.out _ _ ?_
  clear HK1
  refine wp_seq_k fun K2 hK2 => ?_
  have HK2 := Lib.hid hK2
  clear hK2
  obtain ⟨W2, hW2⟩ : ∃ X, W.alloc (.cells #[.string ⟨#[112]⟩, .slice (some ⟨g1, 0, none⟩) 2 2, .string ⟨#[113]⟩, .slice none 0 0, .string ⟨#[112]⟩, .slice (some ⟨g2, 0, none⟩) 2 2, .string ⟨#[112]⟩, .slice (some ⟨g1, 0, none⟩) 2 2, .string ⟨#[112]⟩, .slice (some ⟨g3, 0, none⟩) 2 2] 24) = X := ⟨_, rfl⟩
  have hb2 : Below W.heap.size W W2 := by rw [← hW2]; exact (Below.refl _ _).alloc (Nat.le_refl _) _
  have hr2 : W2.heap[W.heap.size]? = some (.cells #[.string ⟨#[112]⟩, .slice (some ⟨g1, 0, none⟩) 2 2, .string ⟨#[113]⟩, .slice none 0 0, .string ⟨#[112]⟩, .slice (some ⟨g2, 0, none⟩) 2 2, .string ⟨#[112]⟩, .slice (some ⟨g1, 0, none⟩) 2 2, .string ⟨#[112]⟩, .slice (some ⟨g3, 0, none⟩) 2 2] 24 (0, 0)) := by rw [← hW2]; exact World.alloc_heap_new _ _
  obtain ⟨A1, A2, A3, A4⟩ := HA.out
  obtain ⟨k1, k2, k3, k4⟩ := HKK.out
  have hlst : LstR W2 (.slice (some ⟨W.heap.size, 0, none⟩) 5 5) LW := ⟨_, ⟨rfl, Or.inr ⟨W.heap.size, 5, _, rfl, Nat.zero_le _, hr2, Nat.le_refl 5, by unfold maxLen; omega, rfl, rfl⟩⟩,
    ⟨_, _, _, rfl, A1.below hb2, _, _, _, rfl, A4.below hb2, _, _, _, rfl, A2.below hb2, _, _, _, rfl, A1.below hb2, _, _, _, rfl, A3.below hb2, rfl⟩⟩
  have hf := filled_any LW _ W2 (HTW.out.below hb2) hlst (by decide +kernel)
  rw [okAll_w, addAll_w] at hf
  have HF := Lib.hid hf
  have HB2 := Lib.hid hb2
  have c10 := cells_at k1 0 _ rfl
  have c11 := cells_at k1 1 _ rfl
  have c20 := cells_at k2 0 _ rfl
  have c21 := cells_at k2 1 _ rfl
  have c30 := cells_at k3 0 _ rfl
  have c31 := cells_at k3 1 _ rfl
  have c40 := cells_at k4 0 _ rfl
  have c41 := cells_at k4 1 _ rfl
  clear hf hlst hr2 A1 A2 A3 A4 k1 k2 k3 k4 hb2
  go_wp2_with (go_at_call 36; refine HF.out.mono ?_; rintro e w3 ⟨S, lab, rfl, hI, hb3⟩; have HI := Lib.hid hI; have HB3 := Lib.hid hb3; clear hI hb3)
  have hbW := below_then HB2.out HB3.out
  have hB3 := below_then HB0.out hbW
  obtain ⟨A1, A2, A3, A4⟩ := HA.out
  obtain ⟨k1, k2, k3, k4⟩ := HKK.out
  have mv : ∀ {k : Nat} {o : Obj}, W.heap[k]? = some o → w3.heap[k]? = some o := fun h => (hbW.block _ (Array.getElem?_eq_some_iff.1 h).1).trans h
  have sm : ∀ {v0 v1 : Value} {x : Ato}, AtS (fun b => b < W.heap.size) W v0 v1 x → AtS (fun b => b < W.heap.size) w3 v0 v1 x := fun h => h.same (fun _ h => h) (fun b h => hbW.block b h)
  have HA3 := Lib.hid (And.intro (sm A1) (And.intro (sm A2) (And.intro (sm A3) (sm A4))))
  have HKL := Lib.hid (And.intro (Array.getElem?_eq_some_iff.1 k1).1 (And.intro (Array.getElem?_eq_some_iff.1 k2).1 (And.intro (Array.getElem?_eq_some_iff.1 k3).1 (Array.getElem?_eq_some_iff.1 k4).1)))
  have HWW := Lib.hid (And.intro (show W.heap.size < W2.heap.size by rw [← hW2]; simp) (show W2.heap.size ≤ w3.heap.size from HB3.out.size))
  have HK3 := Lib.hid (And.intro (mv k1) (And.intro (mv k2) (And.intro (mv k3) (mv k4))))
  have HB := Lib.hid hB3
  have HT3 := Lib.hid (HTW.out.below hbW)
  have HB0' := Lib.hid (show w.heap.size ≤ W2.heap.size from Nat.le_trans HB0.out.size HB2.out.size)
  obtain ⟨la, lc, m1, m2, m3, hrow, _⟩ := HI.out.row
  have hln : ∀ X, Below w3.heap.size w3 X → Calls Tryz.prog 18 #[.pointer (some ⟨S, 0, none⟩)] X fun e w' => e = .returned (.int .i64 4) ∧ Below X.heap.size X w' := fun X hX => len_row S la LA.length lc (some m1) (some m2) (some m3) X ((hX.block S (Array.getElem?_eq_some_iff.1 hrow).1).trans hrow)
  have hat : ∀ X, Below w3.heap.size w3 X → Calls Tryz.prog 19 #[.pointer (some ⟨S, 0, none⟩), .int .i64 2] X fun e w' => ∃ a c, e = .returned (.tuple #[.agg #[.string bP, .slice a 2 c], .int .i64 0]) ∧ Below X.heap.size X w' ∧ AtS (NewS X w') w' (.string bP) (.slice a 2 c) x2 := fun X hX => at_any _ S lab LA 2 X (HI.out.below hX) (by decide)
  have HLN := Lib.hid hln
  have HAT := Lib.hid hat
  clear A1 A2 A3 A4 k1 k2 k3 k4 mv sm hbW hB3 HA HKK HB2 HB3 HB0 HTW HT HF hrow hln hat c10 c11 c20 c21 c30 c31 c40 c41
  clear hW2
  refine HK2.out _ _ ?_
  clear HK2
  refine wp_seq_k fun K3 hK3 => ?_
  have HK3' := Lib.hid hK3
  clear hK3
  go_wp2_with (go_at_call 18; refine (HLN.out w3 (Below.refl _ _)).mono ?_; rintro e w4 ⟨rfl, hb4⟩; have HB4 := Lib.hid hb4; clear hb4)
  refine HK3'.out _ _ ?_
  clear HK3'
  refine wp_seq_k fun K4 hK4 => ?_
  have HK4 := Lib.hid hK4
  clear hK4
  go_wp2_with fail
  obtain ⟨w5, hw5⟩ : ∃ X, w4.alloc (.cells #[.string ⟨#[112]⟩, .int .i64 2] 41) = X := ⟨_, rfl⟩
  have h5 : w5.heap[w4.heap.size]? = some (.cells #[.string ⟨#[112]⟩, .int .i64 2] 41 (0, 0)) := by rw [← hw5]; exact World.alloc_heap_new _ _
  have hb5 : Below w3.heap.size w3 w5 := by rw [← hw5]; exact below_then HB4.out ((Below.refl _ _).alloc (Nat.le_refl _) _)
  rw [hw5]
  clear hw5
  obtain ⟨q5, hq5⟩ : ∃ g, w4.heap.size = g := ⟨_, rfl⟩
  rw [hq5] at h5 ⊢
  have H5 := Lib.hid h5
  have HB5 := Lib.hid hb5
  have HG5 := Lib.hid (show w3.heap.size ≤ q5 from hq5 ▸ HB4.out.size)
  clear h5 hb5 hq5 HB4
  refine HK4.out _ _ ?_
  clear HK4
  refine wp_seq_k fun K5 hK5 => ?_
  have HK5 := Lib.hid hK5
  clear hK5
  go_wp2_with (go_at_call 19; refine (HAT.out w5 HB5.out).mono ?_; rintro e w6 ⟨a6, c6, rfl, hb6, hat6⟩; have HB6 := Lib.hid hb6; have HAT6 := Lib.hid hat6; clear hb6 hat6)
  obtain ⟨w7, hw7⟩ : ∃ X, w6.alloc (.cells #[.string bP, .slice a6 2 c6] 24) = X := ⟨_, rfl⟩
  have h7 : w7.heap[w6.heap.size]? = some (.cells #[.string bP, .slice a6 2 c6] 24 (0, 0)) := by rw [← hw7]; exact World.alloc_heap_new _ _
  have hb7 : Below w6.heap.size w6 w7 := by rw [← hw7]; exact (Below.refl _ _).alloc (Nat.le_refl _) _
  rw [hw7]
  clear hw7
  obtain ⟨q7, hq7⟩ : ∃ g, w6.heap.size = g := ⟨_, rfl⟩
  rw [hq7] at h7 ⊢
  have H7 := Lib.hid h7
  have HQ7 := Lib.hid hq7
  have HB7 := Lib.hid hb7
  clear h7 hb7 hq7
  have hadd : ∀ (X : World) (g : Nat), Below w3.heap.size w3 X → w3.heap.size ≤ g → X.heap[g]? = some (.cells #[.int .u8 3, .int .i64 0, .string ⟨#[88]⟩, .slice none 0 0] 46 (0, 0)) → Calls Tryz.prog 15 #[.pointer (some ⟨S, 0, none⟩), .agg #[.string ⟨#[112]⟩, .slice (some ⟨g, 0, none⟩) 1 1]] X fun e w' => e = .returned (.tuple #[.bool false, .int .i64 2]) ∧ ∃ lab', StI w' W2.heap.size lab' S LA ∧ Below W2.heap.size X w' ∧ ∀ b, b < W2.heap.size ∨ w3.heap.size ≤ b → b < X.heap.size → w'.heap[b]? = X.heap[b]? := by
    intro X g hX hg hr
    have fr : ∀ b, b < W2.heap.size ∨ w3.heap.size ≤ b → lab b = .free := fun b h => by
      apply Classical.byContradiction
      intro hne
      have := HI.out.mine b hne
      omega
    have hlt := (Array.getElem?_eq_some_iff.1 hr).1
    have hA : AtS (fun b => b < X.heap.size ∧ lab b = .free) X (.string ⟨#[112]⟩) (.slice (some ⟨g, 0, none⟩) 1 1) xV := by
      refine ⟨rfl, by decide, some ⟨g, 0, none⟩, 1, rfl, by unfold maxLen; simp [xV], fun _ => ⟨g, 0, rfl, ⟨hlt, fr g (Or.inr hg)⟩, ?_⟩⟩
      simp only [xV, TmsS]
      exact ⟨_, _, _, _, cells_at hr 0 _ rfl, cells_at hr 1 _ rfl, cells_at hr 2 _ rfl, cells_at hr 3 _ rfl, tmS_leaf _ _ 3 0 ⟨#[88]⟩ (by omega) (by unfold I64; decide +kernel) (by decide), trivial⟩
    have h := add_any W2.heap.size S lab LA xV (some ⟨g, 0, none⟩) 1 X (HI.out.below hX) hA (by decide +kernel)
    rw [addR_V, addL_V] at h
    refine h.mono ?_
    rintro e w' ⟨rfl, lab', hI', _, hs'⟩
    exact ⟨rfl, lab', hI', hs'.low (Nat.le_trans HWW.out.2 hX.size) (fun b h => (HI.out.mine b h).1), fun b hb hl => hs'.block b hl (by rw [fr b hb]; exact fun h => h.1 rfl)⟩
  have HADD := Lib.hid hadd
  clear hadd
  refine HK5.out _ _ ?_
  clear HK5
  refine wp_seq_k fun K6 hK6 => ?_
  have HK6 := Lib.hid hK6
  clear hK6
  have h37 : Below w3.heap.size w3 w7 := below_then HB5.out (below_then HB6.out (by rw [← HQ7.out] at *; exact HB7.out))
  have H37 := Lib.hid h37
  clear h37
  go_wp2_with (first
    | (go_at_call 32; refine (atom11_any ⟨#[112]⟩ _ 1 1 _).mono ?_; rintro e w8 ⟨rfl, hb8⟩; have HR8 := Lib.hid (row_of hb8 (Below.refl _ _)); have HB8 := Lib.hid (below_alloc hb8 (Below.refl _ _)); clear hb8)
    | (go_at_call 15; refine (HADD.out w8 w7.heap.size (below_then H37.out HB8.out) H37.out.size HR8.out).mono ?_; rintro e V9 ⟨rfl, lab9, hI9, hb9, hk9⟩; have HI9 := Lib.hid hI9; have HB9 := Lib.hid hb9; have HK9 := Lib.hid hk9; clear hI9 hb9 hk9))
  have hle := HWW.out
  have h38 : Below w3.heap.size w3 w8 := below_then H37.out HB8.out
  have hz7 := H37.out.size
  have hz8 := HB8.out.size
  have mk : ∀ b, b < W2.heap.size ∨ w3.heap.size ≤ b → b < w7.heap.size → V9.heap[b]? = w7.heap[b]? := fun b hb hl => (HK9.out b hb (by omega)).trans (HB8.out.block b hl)
  have mo : ∀ b, b < W.heap.size → V9.heap[b]? = w3.heap[b]? := fun b hb => (mk b (Or.inl (by omega)) (by omega)).trans (H37.out.block b (by omega))
  have hv9 : W2.heap.size ≤ V9.heap.size := by have := HB9.out.size; omega
  have hv8 : w8.heap.size ≤ V9.heap.size := HB9.out.size
  have sm : ∀ {v0 v1 : Value} {x : Ato}, AtS (fun b => b < W.heap.size) w3 v0 v1 x → AtS (fun b => b < V9.heap.size) V9 v0 v1 x := fun h => h.same (fun b h => by omega) (fun b h => mo b h)
  obtain ⟨A1, A2, A3, A4⟩ := HA3.out
  obtain ⟨k1, k2, k3, k4⟩ := HK3.out
  obtain ⟨l1, l2, l3, l4⟩ := HKL.out
  have HF1 := Lib.hid (sm A1)
  have HF2 := Lib.hid (sm A2)
  have HF3 := Lib.hid (sm A3)
  have HF4 := Lib.hid (sm A4)
  have HR1 := Lib.hid ((mo _ l1).trans k1)
  have HR2 := Lib.hid ((mo _ l2).trans k2)
  have HR3 := Lib.hid ((mo _ l3).trans k3)
  have HR4 := Lib.hid ((mo _ l4).trans k4)
  have hz5 := HB5.out.size
  have hz6 := HB6.out.size
  have hz67 := HB7.out.size
  have h57 : Below w5.heap.size w5 w7 := below_then HB6.out HB7.out
  have hq5g : w3.heap.size ≤ q5 := HG5.out
  have hl5 : q5 < w5.heap.size := (Array.getElem?_eq_some_iff.1 H5.out).1
  have hz57 := h57.size
  have HR5 := Lib.hid ((mk q5 (Or.inr hq5g) (by omega)).trans ((h57.block q5 hl5).trans H5.out))
  have hq7g : w3.heap.size ≤ q7 := by have := HQ7.out; omega
  have HR7 := Lib.hid ((mk q7 (Or.inr hq7g) (Array.getElem?_eq_some_iff.1 H7.out).1).trans H7.out)
  have h67 : Below w6.heap.size w6 w7 := HB7.out
  have hz677 := h67.size
  have HF7 := Lib.hid (HAT6.out.same (S' := fun b => b < V9.heap.size) (w' := V9) (fun b h => by have := h.2; omega) (fun b h => (mk b (Or.inr (by have := h.1; omega)) (by have := h.2; omega)).trans (h67.block b h.2)))
  have HB9' := Lib.hid (show Below w.heap.size w V9 from (HB.out.trans (h38.mono HB.out.size)).trans (HB9.out.mono HB0'.out))
  clear hle h38 hz7 hz8 mk mo hv9 hv8 sm A1 A2 A3 A4 k1 k2 k3 k4 l1 l2 l3 l4 hz5 hz6 hz67 h57 hq5g hl5 hz57 hq7g h67 hz677 HA3 HK3 HKL HWW H37 HB8 HK9 HB9 HB5 HB6 HB7 HQ7 H5 H7 HAT6 HLN HAT HADD HI HT3 HR8 HB
  refine HK6.out _ _ ?_
  clear HK6
  refine wp_seq_k fun K7 hK7 => ?_
  have HK7 := Lib.hid hK7
  clear hK7
  have hst := @FL_grow [fV (.int .i64 0), fV (.bool true), fV (.bool true), fV (.int .i64 2), fV (.bool true), fV (.bool true), fV (.bool true), fV (.agg #[.string bP, .slice a6 2 c6]), fV (.agg #[.string ⟨#[112]⟩, .slice (some ⟨g2, 0, none⟩) 2 2]), fV (.bool true), fV (.bool true), fV (.bool true), fV (.pointer (some ⟨S, 0, none⟩)), fV (.agg #[.string ⟨#[112]⟩, .int .i64 2]), fLst [x1, x2, x3], fV (.agg #[.string ⟨#[112]⟩, .slice (some ⟨g1, 0, none⟩) 2 2]), fV (.agg #[.string ⟨#[112]⟩, .slice (some ⟨g2, 0, none⟩) 2 2]), fV (.agg #[.string ⟨#[112]⟩, .slice (some ⟨g3, 0, none⟩) 2 2]), fLst [x1, x2, x3], fV (.bool true), fV (.bool true), fV (.bool true), fV (.pointer (some ⟨S, 0, none⟩)), fV (.agg #[.string ⟨#[112]⟩, .int .i64 2]), fV (.agg #[.int .u8 2, .int .i64 0, .string ⟨#[97]⟩, .slice none 0 0]), fLst [x1, x2], fV (.agg #[.string ⟨#[112]⟩, .slice (some ⟨g1, 0, none⟩) 2 2]), fV (.agg #[.string ⟨#[112]⟩, .slice (some ⟨g2, 0, none⟩) 2 2]), fLst [x1, x2], fV (.bool true), fV (.bool true), fV (.bool true), fV (.pointer (some ⟨S, 0, none⟩)), fSgR [gP, gQ], fV (.agg #[.string ⟨#[112]⟩, .int .i64 2]), fV (.agg #[.string ⟨#[113]⟩, .int .i64 0]), fSgR [gP, gQ], fV (.bool true), fV (.bool true), fV (.bool true), fV (.pointer (some ⟨S, 0, none⟩)), fLst [x1, x2, x3, x4], fV (.agg #[.string ⟨#[112]⟩, .slice (some ⟨g1, 0, none⟩) 2 2]), fV (.agg #[.string ⟨#[112]⟩, .slice (some ⟨g2, 0, none⟩) 2 2]), fV (.agg #[.string ⟨#[112]⟩, .slice (some ⟨g3, 0, none⟩) 2 2]), fV (.agg #[.string ⟨#[113]⟩, .slice none 0 0]), fLst [x1, x2, x3, x4], fV (.bool true), fV (.bool true), fV (.bool true)] (by
    intro F hF
    simp only [List.mem_cons, List.not_mem_nil, or_false] at hF
    rcases hF with rfl | rfl | rfl | rfl | rfl | rfl | rfl | rfl | rfl | rfl | rfl | rfl | rfl | rfl | rfl | rfl | rfl | rfl | rfl | rfl | rfl | rfl | rfl | rfl | rfl | rfl | rfl | rfl | rfl | rfl | rfl | rfl | rfl | rfl | rfl | rfl | rfl | rfl | rfl | rfl | rfl | rfl | rfl | rfl | rfl | rfl | rfl | rfl | rfl | rfl <;> first | exact fV_stays _ | exact fLst_stays _ | exact fLst_stays _ | exact fLst_stays _ | exact fLst_stays _ | exact fLst_stays _ | exact fLst_stays _ | exact fSgR_stays _ | exact fSgR_stays _)
  refine wp_region_grow_orB (by kernel_rfl) (FL [fV (.int .i64 0), fV (.bool true), fV (.bool true), fV (.int .i64 2), fV (.bool true), fV (.bool true), fV (.bool true), fV (.agg #[.string bP, .slice a6 2 c6]), fV (.agg #[.string ⟨#[112]⟩, .slice (some ⟨g2, 0, none⟩) 2 2]), fV (.bool true), fV (.bool true), fV (.bool true), fV (.pointer (some ⟨S, 0, none⟩)), fV (.agg #[.string ⟨#[112]⟩, .int .i64 2]), fLst [x1, x2, x3], fV (.agg #[.string ⟨#[112]⟩, .slice (some ⟨g1, 0, none⟩) 2 2]), fV (.agg #[.string ⟨#[112]⟩, .slice (some ⟨g2, 0, none⟩) 2 2]), fV (.agg #[.string ⟨#[112]⟩, .slice (some ⟨g3, 0, none⟩) 2 2]), fLst [x1, x2, x3], fV (.bool true), fV (.bool true), fV (.bool true), fV (.pointer (some ⟨S, 0, none⟩)), fV (.agg #[.string ⟨#[112]⟩, .int .i64 2]), fV (.agg #[.int .u8 2, .int .i64 0, .string ⟨#[97]⟩, .slice none 0 0]), fLst [x1, x2], fV (.agg #[.string ⟨#[112]⟩, .slice (some ⟨g1, 0, none⟩) 2 2]), fV (.agg #[.string ⟨#[112]⟩, .slice (some ⟨g2, 0, none⟩) 2 2]), fLst [x1, x2], fV (.bool true), fV (.bool true), fV (.bool true), fV (.pointer (some ⟨S, 0, none⟩)), fSgR [gP, gQ], fV (.agg #[.string ⟨#[112]⟩, .int .i64 2]), fV (.agg #[.string ⟨#[113]⟩, .int .i64 0]), fSgR [gP, gQ], fV (.bool true), fV (.bool true), fV (.bool true), fV (.pointer (some ⟨S, 0, none⟩)), fLst [x1, x2, x3, x4], fV (.agg #[.string ⟨#[112]⟩, .slice (some ⟨g1, 0, none⟩) 2 2]), fV (.agg #[.string ⟨#[112]⟩, .slice (some ⟨g2, 0, none⟩) 2 2]), fV (.agg #[.string ⟨#[112]⟩, .slice (some ⟨g3, 0, none⟩) 2 2]), fV (.agg #[.string ⟨#[113]⟩, .slice none 0 0]), fLst [x1, x2, x3, x4], fV (.bool true), fV (.bool true), fV (.bool true)]) hst (by kernel_rfl) (steps_or ?_) ?_
  · refine ⟨?_, ?_, ?_, ?_, ?_, ?_, ?_, ?_, ?_, ?_, ?_, ?_, ?_, ?_, ?_, ?_, ?_, ?_, ?_, ?_, ?_, ?_, ?_, ?_, ?_, ?_, ?_, ?_, ?_, ?_, ?_, ?_, ?_, ?_, ?_, ?_, ?_, ?_, ?_, ?_, ?_, ?_, ?_, ?_, ?_, ?_, ?_, ?_, ?_, ?_, trivial⟩
    · intro a wx hb hd hs ho hp
      refine Or.inl ⟨rfl, ?_⟩
      have h9 : a.tmps.getD 9 undef = .int .i64 0 := (ho 9 (by kernel_rfl)).trans rfl
      unfold Oper.wp
      go_simp
      exact Stepped.at (v := .int .i64 0) (by first | rfl | simp) hd (Below.refl _ _) rfl
    · intro a wx hb hd hs ho hp
      refine Or.inl ⟨rfl, ?_⟩
      have h58 : a.tmps.getD 58 undef = .int .i64 0 := facts_at hp 0 58 (by kernel_rfl)
      unfold Oper.wp
      go_simp
      exact Stepped.at (v := .bool true) (by first | rfl | simp) hd (Below.refl _ _) rfl
    · intro a wx hb hd hs ho hp
      refine Or.inl ⟨rfl, ?_⟩
      have h59 : a.tmps.getD 59 undef = .bool true := facts_at hp 1 59 (by kernel_rfl)
      unfold Oper.wp
      go_simp
      exact Stepped.at (v := .bool true) (by first | rfl | simp) hd (Below.refl _ _) rfl
    · intro a wx hb hd hs ho hp
      refine Or.inl ⟨wanted_yes rfl (yielded_at (k := 2) (d := 60) (by kernel_rfl) (show a.tmps.getD 60 undef = _ from facts_at hp 2 60 (by kernel_rfl))), ?_⟩
      have h11 : a.tmps.getD 11 undef = .int .i64 2 := (ho 11 (by kernel_rfl)).trans rfl
      unfold Oper.wp
      go_simp
      exact Stepped.at (v := .int .i64 2) (by first | rfl | simp) hd (Below.refl _ _) rfl
    · intro a wx hb hd hs ho hp
      refine Or.inl ⟨wanted_yes rfl (yielded_at (k := 2) (d := 60) (by kernel_rfl) (show a.tmps.getD 60 undef = _ from facts_at hp 2 60 (by kernel_rfl))), ?_⟩
      have h61 : a.tmps.getD 61 undef = .int .i64 2 := facts_at hp 3 61 (by kernel_rfl)
      unfold Oper.wp
      go_simp
      exact Stepped.at (v := .bool true) (by first | rfl | simp) hd (Below.refl _ _) rfl
    · intro a wx hb hd hs ho hp
      refine Or.inl ⟨rfl, ?_⟩
      have h60 : a.tmps.getD 60 undef = .bool true := facts_at hp 2 60 (by kernel_rfl)
      have h62 : a.tmps.getD 62 undef = .bool true := facts_at hp 4 62 (by kernel_rfl)
      unfold Oper.wp
      go_simp
      exact Stepped.at (v := .bool true) (by first | rfl | simp) hd (Below.refl _ _) rfl
    · intro a wx hb hd hs ho hp
      refine Or.inl ⟨rfl, ?_⟩
      have h63 : a.tmps.getD 63 undef = .bool true := facts_at hp 5 63 (by kernel_rfl)
      unfold Oper.wp
      go_simp
      exact Stepped.at (v := .bool true) (by first | rfl | simp) hd (Below.refl _ _) rfl
    · intro a wx hb hd hs ho hp
      refine Or.inl ⟨wanted_yes rfl (yielded_at (k := 6) (d := 64) (by kernel_rfl) (show a.tmps.getD 64 undef = _ from facts_at hp 6 64 (by kernel_rfl))), ?_⟩
      have h8 : a.tmps.getD 8 undef = .pointer (some ⟨q7, 0, none⟩) := (ho 8 (by kernel_rfl)).trans rfl
      have hx := (hb.block (q7) (Array.getElem?_eq_some_iff.1 HR7.out).1).trans HR7.out
      have s8 := qslot_of (hs.trans (rfl : _ = 107)) (by decide) h8
      have x0 := cells_at hx 0 _ rfl
      have x1 := cells_at hx 1 _ rfl
      unfold Oper.wp
      go_simp
      exact Stepped.at (v := .agg #[.string bP, .slice a6 2 c6]) (by first | rfl | simp) hd (Below.refl _ _) rfl
    · intro a wx hb hd hs ho hp
      refine Or.inl ⟨wanted_yes rfl (yielded_at (k := 6) (d := 64) (by kernel_rfl) (show a.tmps.getD 64 undef = _ from facts_at hp 6 64 (by kernel_rfl))), ?_⟩
      have h2 : a.tmps.getD 2 undef = .pointer (some ⟨m + 1, 0, none⟩) := (ho 2 (by kernel_rfl)).trans rfl
      have hx := (hb.block (m + 1) (Array.getElem?_eq_some_iff.1 HR2.out).1).trans HR2.out
      have s2 := qslot_of (hs.trans (rfl : _ = 107)) (by decide) h2
      have x0 := cells_at hx 0 _ rfl
      have x1 := cells_at hx 1 _ rfl
      unfold Oper.wp
      go_simp
      exact Stepped.at (v := .agg #[.string ⟨#[112]⟩, .slice (some ⟨g2, 0, none⟩) 2 2]) (by first | rfl | simp) hd (Below.refl _ _) rfl
    · intro a wx hb hd hs ho hp
      refine Or.inl ⟨wanted_yes rfl (yielded_at (k := 6) (d := 64) (by kernel_rfl) (show a.tmps.getD 64 undef = _ from facts_at hp 6 64 (by kernel_rfl))), ?_⟩
      have h65 : a.tmps.getD 65 undef = .agg #[.string bP, .slice a6 2 c6] := facts_at hp 7 65 (by kernel_rfl)
      have h66 : a.tmps.getD 66 undef = .agg #[.string ⟨#[112]⟩, .slice (some ⟨g2, 0, none⟩) 2 2] := facts_at hp 8 66 (by kernel_rfl)
      unfold Oper.wp
      go_simp
      refine (sameAtom_self x2 _ _ _ _ wx (HF7.out.below hb) (HF2.out.below hb)).mono ?_
      rintro e wy ⟨rfl, hb9⟩
      exact Stepped.at (v := .bool true) rfl hd hb9 rfl
    · intro a wx hb hd hs ho hp
      refine Or.inl ⟨rfl, ?_⟩
      have h64 : a.tmps.getD 64 undef = .bool true := facts_at hp 6 64 (by kernel_rfl)
      have h67 : a.tmps.getD 67 undef = .bool true := facts_at hp 9 67 (by kernel_rfl)
      unfold Oper.wp
      go_simp
      exact Stepped.at (v := .bool true) (by first | rfl | simp) hd (Below.refl _ _) rfl
    · intro a wx hb hd hs ho hp
      refine Or.inl ⟨rfl, ?_⟩
      have h68 : a.tmps.getD 68 undef = .bool true := facts_at hp 10 68 (by kernel_rfl)
      unfold Oper.wp
      go_simp
      exact Stepped.at (v := .bool true) (by first | rfl | simp) hd (Below.refl _ _) rfl
    · intro a wx hb hd hs ho hp
      refine Or.inl ⟨wanted_yes rfl (yielded_at (k := 11) (d := 69) (by kernel_rfl) (show a.tmps.getD 69 undef = _ from facts_at hp 11 69 (by kernel_rfl))), ?_⟩
      have h5 : a.tmps.getD 5 undef = .pointer (some ⟨S, 0, none⟩) := (ho 5 (by kernel_rfl)).trans rfl
      unfold Oper.wp
      go_simp
      exact Stepped.at (v := .pointer (some ⟨S, 0, none⟩)) (by first | rfl | simp) hd (Below.refl _ _) rfl
    · intro a wx hb hd hs ho hp
      refine Or.inl ⟨wanted_yes rfl (yielded_at (k := 11) (d := 69) (by kernel_rfl) (show a.tmps.getD 69 undef = _ from facts_at hp 11 69 (by kernel_rfl))), ?_⟩
      have h7 : a.tmps.getD 7 undef = .pointer (some ⟨q5, 0, none⟩) := (ho 7 (by kernel_rfl)).trans rfl
      have hx := (hb.block (q5) (Array.getElem?_eq_some_iff.1 HR5.out).1).trans HR5.out
      have s7 := qslot_of (hs.trans (rfl : _ = 107)) (by decide) h7
      have x0 := cells_at hx 0 _ rfl
      have x1 := cells_at hx 1 _ rfl
      unfold Oper.wp
      go_simp
      exact Stepped.at (v := .agg #[.string ⟨#[112]⟩, .int .i64 2]) (by first | rfl | simp) hd (Below.refl _ _) rfl
    · intro a wx hb hd hs ho hp
      refine Or.inl ⟨wanted_yes rfl (yielded_at (k := 11) (d := 69) (by kernel_rfl) (show a.tmps.getD 69 undef = _ from facts_at hp 11 69 (by kernel_rfl))), ?_⟩
      have h70 : a.tmps.getD 70 undef = .pointer (some ⟨S, 0, none⟩) := facts_at hp 12 70 (by kernel_rfl)
      have h71 : a.tmps.getD 71 undef = .agg #[.string ⟨#[112]⟩, .int .i64 2] := facts_at hp 13 71 (by kernel_rfl)
      unfold Oper.wp
      go_simp
      refine (awake_all (HI9.out.below hb)).mono ?_
      rintro e wy ⟨v, rfl, hv, hb9⟩
      exact Stepped.at (v := v) rfl hd hb9 hv
    · intro a wx hb hd hs ho hp
      refine Or.inl ⟨wanted_yes rfl (yielded_at (k := 11) (d := 69) (by kernel_rfl) (show a.tmps.getD 69 undef = _ from facts_at hp 11 69 (by kernel_rfl))), ?_⟩
      have h1 : a.tmps.getD 1 undef = .pointer (some ⟨m, 0, none⟩) := (ho 1 (by kernel_rfl)).trans rfl
      have hx := (hb.block (m) (Array.getElem?_eq_some_iff.1 HR1.out).1).trans HR1.out
      have s1 := qslot_of (hs.trans (rfl : _ = 107)) (by decide) h1
      have x0 := cells_at hx 0 _ rfl
      have x1 := cells_at hx 1 _ rfl
      unfold Oper.wp
      go_simp
      exact Stepped.at (v := .agg #[.string ⟨#[112]⟩, .slice (some ⟨g1, 0, none⟩) 2 2]) (by first | rfl | simp) hd (Below.refl _ _) rfl
    · intro a wx hb hd hs ho hp
      refine Or.inl ⟨wanted_yes rfl (yielded_at (k := 11) (d := 69) (by kernel_rfl) (show a.tmps.getD 69 undef = _ from facts_at hp 11 69 (by kernel_rfl))), ?_⟩
      have h2 : a.tmps.getD 2 undef = .pointer (some ⟨m + 1, 0, none⟩) := (ho 2 (by kernel_rfl)).trans rfl
      have hx := (hb.block (m + 1) (Array.getElem?_eq_some_iff.1 HR2.out).1).trans HR2.out
      have s2 := qslot_of (hs.trans (rfl : _ = 107)) (by decide) h2
      have x0 := cells_at hx 0 _ rfl
      have x1 := cells_at hx 1 _ rfl
      unfold Oper.wp
      go_simp
      exact Stepped.at (v := .agg #[.string ⟨#[112]⟩, .slice (some ⟨g2, 0, none⟩) 2 2]) (by first | rfl | simp) hd (Below.refl _ _) rfl
    · intro a wx hb hd hs ho hp
      refine Or.inl ⟨wanted_yes rfl (yielded_at (k := 11) (d := 69) (by kernel_rfl) (show a.tmps.getD 69 undef = _ from facts_at hp 11 69 (by kernel_rfl))), ?_⟩
      have h3 : a.tmps.getD 3 undef = .pointer (some ⟨m + 1 + 1, 0, none⟩) := (ho 3 (by kernel_rfl)).trans rfl
      have hx := (hb.block (m + 1 + 1) (Array.getElem?_eq_some_iff.1 HR3.out).1).trans HR3.out
      have s3 := qslot_of (hs.trans (rfl : _ = 107)) (by decide) h3
      have x0 := cells_at hx 0 _ rfl
      have x1 := cells_at hx 1 _ rfl
      unfold Oper.wp
      go_simp
      exact Stepped.at (v := .agg #[.string ⟨#[112]⟩, .slice (some ⟨g3, 0, none⟩) 2 2]) (by first | rfl | simp) hd (Below.refl _ _) rfl
    · intro a wx hb hd hs ho hp
      refine Or.inl ⟨wanted_yes rfl (yielded_at (k := 11) (d := 69) (by kernel_rfl) (show a.tmps.getD 69 undef = _ from facts_at hp 11 69 (by kernel_rfl))), ?_⟩
      have h73 : a.tmps.getD 73 undef = .agg #[.string ⟨#[112]⟩, .slice (some ⟨g1, 0, none⟩) 2 2] := facts_at hp 15 73 (by kernel_rfl)
      have h74 : a.tmps.getD 74 undef = .agg #[.string ⟨#[112]⟩, .slice (some ⟨g2, 0, none⟩) 2 2] := facts_at hp 16 74 (by kernel_rfl)
      have h75 : a.tmps.getD 75 undef = .agg #[.string ⟨#[112]⟩, .slice (some ⟨g3, 0, none⟩) 2 2] := facts_at hp 17 75 (by kernel_rfl)
      have s73 := qslot_of (hs.trans (rfl : _ = 107)) (by decide) h73
      have s74 := qslot_of (hs.trans (rfl : _ = 107)) (by decide) h74
      have s75 := qslot_of (hs.trans (rfl : _ = 107)) (by decide) h75
      unfold Oper.wp
      go_simp
      refine Stepped.at (v := .slice (some ⟨wx.heap.size, 0, none⟩) 3 3) (by first | rfl | simp) hd ((Below.refl _ wx).alloc (Nat.le_refl _) _) ?_
      exact ⟨_, ⟨rfl, Or.inr ⟨wx.heap.size, 3, _, rfl, Nat.zero_le _, World.alloc_heap_new _ _, Nat.le_refl 3, by unfold maxLen; omega, rfl, rfl⟩⟩, ⟨_, _, _, rfl, (HF1.out.below hb).below ((Below.refl _ wx).alloc (Nat.le_refl _) _), _, _, _, rfl, (HF2.out.below hb).below ((Below.refl _ wx).alloc (Nat.le_refl _) _), _, _, _, rfl, (HF3.out.below hb).below ((Below.refl _ wx).alloc (Nat.le_refl _) _), rfl⟩⟩
    · intro a wx hb hd hs ho hp
      refine Or.inl ⟨wanted_yes rfl (yielded_at (k := 11) (d := 69) (by kernel_rfl) (show a.tmps.getD 69 undef = _ from facts_at hp 11 69 (by kernel_rfl))), ?_⟩
      have e72 := facts_at hp 14 72 (by kernel_rfl)
      have e76 := facts_at hp 18 76 (by kernel_rfl)
      obtain ⟨va, h72⟩ : ∃ u, a.tmps.getD 72 undef = u := ⟨_, rfl⟩
      obtain ⟨vb, h76⟩ : ∃ u, a.tmps.getD 76 undef = u := ⟨_, rfl⟩
      rw [h72] at e72
      rw [h76] at e76
      unfold Oper.wp
      go_simp
      refine (sameAtoms_self _ va vb wx e72 e76).mono ?_
      rintro e wy ⟨rfl, hb9⟩
      exact Stepped.at (v := .bool true) rfl hd hb9 rfl
    · intro a wx hb hd hs ho hp
      refine Or.inl ⟨rfl, ?_⟩
      have h69 : a.tmps.getD 69 undef = .bool true := facts_at hp 11 69 (by kernel_rfl)
      have h77 : a.tmps.getD 77 undef = .bool true := facts_at hp 19 77 (by kernel_rfl)
      unfold Oper.wp
      go_simp
      exact Stepped.at (v := .bool true) (by first | rfl | simp) hd (Below.refl _ _) rfl
    · intro a wx hb hd hs ho hp
      refine Or.inl ⟨rfl, ?_⟩
      have h78 : a.tmps.getD 78 undef = .bool true := facts_at hp 20 78 (by kernel_rfl)
      unfold Oper.wp
      go_simp
      exact Stepped.at (v := .bool true) (by first | rfl | simp) hd (Below.refl _ _) rfl
    · intro a wx hb hd hs ho hp
      refine Or.inl ⟨wanted_yes rfl (yielded_at (k := 21) (d := 79) (by kernel_rfl) (show a.tmps.getD 79 undef = _ from facts_at hp 21 79 (by kernel_rfl))), ?_⟩
      have h5 : a.tmps.getD 5 undef = .pointer (some ⟨S, 0, none⟩) := (ho 5 (by kernel_rfl)).trans rfl
      unfold Oper.wp
      go_simp
      exact Stepped.at (v := .pointer (some ⟨S, 0, none⟩)) (by first | rfl | simp) hd (Below.refl _ _) rfl
    · intro a wx hb hd hs ho hp
      refine Or.inl ⟨wanted_yes rfl (yielded_at (k := 21) (d := 79) (by kernel_rfl) (show a.tmps.getD 79 undef = _ from facts_at hp 21 79 (by kernel_rfl))), ?_⟩
      have h7 : a.tmps.getD 7 undef = .pointer (some ⟨q5, 0, none⟩) := (ho 7 (by kernel_rfl)).trans rfl
      have hx := (hb.block (q5) (Array.getElem?_eq_some_iff.1 HR5.out).1).trans HR5.out
      have s7 := qslot_of (hs.trans (rfl : _ = 107)) (by decide) h7
      have x0 := cells_at hx 0 _ rfl
      have x1 := cells_at hx 1 _ rfl
      unfold Oper.wp
      go_simp
      exact Stepped.at (v := .agg #[.string ⟨#[112]⟩, .int .i64 2]) (by first | rfl | simp) hd (Below.refl _ _) rfl
    · intro a wx hb hd hs ho hp
      refine Or.inl ⟨wanted_yes rfl (yielded_at (k := 21) (d := 79) (by kernel_rfl) (show a.tmps.getD 79 undef = _ from facts_at hp 21 79 (by kernel_rfl))), ?_⟩
      unfold Oper.wp
      go_simp
      refine (sym11_any ⟨#[97]⟩ wx).mono ?_
      rintro e w9 ⟨rfl, hb9⟩
      exact Stepped.at (v := .agg #[.int .u8 2, .int .i64 0, .string ⟨#[97]⟩, .slice none 0 0]) rfl hd (hb9) rfl
    · intro a wx hb hd hs ho hp
      refine Or.inl ⟨wanted_yes rfl (yielded_at (k := 21) (d := 79) (by kernel_rfl) (show a.tmps.getD 79 undef = _ from facts_at hp 21 79 (by kernel_rfl))), ?_⟩
      have h80 : a.tmps.getD 80 undef = .pointer (some ⟨S, 0, none⟩) := facts_at hp 22 80 (by kernel_rfl)
      have h81 : a.tmps.getD 81 undef = .agg #[.string ⟨#[112]⟩, .int .i64 2] := facts_at hp 23 81 (by kernel_rfl)
      have h82 : a.tmps.getD 82 undef = .agg #[.int .u8 2, .int .i64 0, .string ⟨#[97]⟩, .slice none 0 0] := facts_at hp 24 82 (by kernel_rfl)
      unfold Oper.wp
      go_simp
      refine (awake_find (HI9.out.below hb)).mono ?_
      rintro e wy ⟨v, rfl, hv, hb9⟩
      exact Stepped.at (v := v) rfl hd hb9 hv
    · intro a wx hb hd hs ho hp
      refine Or.inl ⟨wanted_yes rfl (yielded_at (k := 21) (d := 79) (by kernel_rfl) (show a.tmps.getD 79 undef = _ from facts_at hp 21 79 (by kernel_rfl))), ?_⟩
      have h1 : a.tmps.getD 1 undef = .pointer (some ⟨m, 0, none⟩) := (ho 1 (by kernel_rfl)).trans rfl
      have hx := (hb.block (m) (Array.getElem?_eq_some_iff.1 HR1.out).1).trans HR1.out
      have s1 := qslot_of (hs.trans (rfl : _ = 107)) (by decide) h1
      have x0 := cells_at hx 0 _ rfl
      have x1 := cells_at hx 1 _ rfl
      unfold Oper.wp
      go_simp
      exact Stepped.at (v := .agg #[.string ⟨#[112]⟩, .slice (some ⟨g1, 0, none⟩) 2 2]) (by first | rfl | simp) hd (Below.refl _ _) rfl
    · intro a wx hb hd hs ho hp
      refine Or.inl ⟨wanted_yes rfl (yielded_at (k := 21) (d := 79) (by kernel_rfl) (show a.tmps.getD 79 undef = _ from facts_at hp 21 79 (by kernel_rfl))), ?_⟩
      have h2 : a.tmps.getD 2 undef = .pointer (some ⟨m + 1, 0, none⟩) := (ho 2 (by kernel_rfl)).trans rfl
      have hx := (hb.block (m + 1) (Array.getElem?_eq_some_iff.1 HR2.out).1).trans HR2.out
      have s2 := qslot_of (hs.trans (rfl : _ = 107)) (by decide) h2
      have x0 := cells_at hx 0 _ rfl
      have x1 := cells_at hx 1 _ rfl
      unfold Oper.wp
      go_simp
      exact Stepped.at (v := .agg #[.string ⟨#[112]⟩, .slice (some ⟨g2, 0, none⟩) 2 2]) (by first | rfl | simp) hd (Below.refl _ _) rfl
    · intro a wx hb hd hs ho hp
      refine Or.inl ⟨wanted_yes rfl (yielded_at (k := 21) (d := 79) (by kernel_rfl) (show a.tmps.getD 79 undef = _ from facts_at hp 21 79 (by kernel_rfl))), ?_⟩
      have h84 : a.tmps.getD 84 undef = .agg #[.string ⟨#[112]⟩, .slice (some ⟨g1, 0, none⟩) 2 2] := facts_at hp 26 84 (by kernel_rfl)
      have h85 : a.tmps.getD 85 undef = .agg #[.string ⟨#[112]⟩, .slice (some ⟨g2, 0, none⟩) 2 2] := facts_at hp 27 85 (by kernel_rfl)
      have s84 := qslot_of (hs.trans (rfl : _ = 107)) (by decide) h84
      have s85 := qslot_of (hs.trans (rfl : _ = 107)) (by decide) h85
      unfold Oper.wp
      go_simp
      refine Stepped.at (v := .slice (some ⟨wx.heap.size, 0, none⟩) 2 2) (by first | rfl | simp) hd ((Below.refl _ wx).alloc (Nat.le_refl _) _) ?_
      exact ⟨_, ⟨rfl, Or.inr ⟨wx.heap.size, 2, _, rfl, Nat.zero_le _, World.alloc_heap_new _ _, Nat.le_refl 2, by unfold maxLen; omega, rfl, rfl⟩⟩, ⟨_, _, _, rfl, (HF1.out.below hb).below ((Below.refl _ wx).alloc (Nat.le_refl _) _), _, _, _, rfl, (HF2.out.below hb).below ((Below.refl _ wx).alloc (Nat.le_refl _) _), rfl⟩⟩
    · intro a wx hb hd hs ho hp
      refine Or.inl ⟨wanted_yes rfl (yielded_at (k := 21) (d := 79) (by kernel_rfl) (show a.tmps.getD 79 undef = _ from facts_at hp 21 79 (by kernel_rfl))), ?_⟩
      have e83 := facts_at hp 25 83 (by kernel_rfl)
      have e86 := facts_at hp 28 86 (by kernel_rfl)
      obtain ⟨va, h83⟩ : ∃ u, a.tmps.getD 83 undef = u := ⟨_, rfl⟩
      obtain ⟨vb, h86⟩ : ∃ u, a.tmps.getD 86 undef = u := ⟨_, rfl⟩
      rw [h83] at e83
      rw [h86] at e86
      unfold Oper.wp
      go_simp
      refine (sameAtoms_self _ va vb wx e83 e86).mono ?_
      rintro e wy ⟨rfl, hb9⟩
      exact Stepped.at (v := .bool true) rfl hd hb9 rfl
    · intro a wx hb hd hs ho hp
      refine Or.inl ⟨rfl, ?_⟩
      have h79 : a.tmps.getD 79 undef = .bool true := facts_at hp 21 79 (by kernel_rfl)
      have h87 : a.tmps.getD 87 undef = .bool true := facts_at hp 29 87 (by kernel_rfl)
      unfold Oper.wp
      go_simp
      exact Stepped.at (v := .bool true) (by first | rfl | simp) hd (Below.refl _ _) rfl
    · intro a wx hb hd hs ho hp
      refine Or.inl ⟨rfl, ?_⟩
      have h88 : a.tmps.getD 88 undef = .bool true := facts_at hp 30 88 (by kernel_rfl)
      unfold Oper.wp
      go_simp
      exact Stepped.at (v := .bool true) (by first | rfl | simp) hd (Below.refl _ _) rfl
    · intro a wx hb hd hs ho hp
      refine Or.inl ⟨wanted_yes rfl (yielded_at (k := 31) (d := 89) (by kernel_rfl) (show a.tmps.getD 89 undef = _ from facts_at hp 31 89 (by kernel_rfl))), ?_⟩
      have h5 : a.tmps.getD 5 undef = .pointer (some ⟨S, 0, none⟩) := (ho 5 (by kernel_rfl)).trans rfl
      unfold Oper.wp
      go_simp
      exact Stepped.at (v := .pointer (some ⟨S, 0, none⟩)) (by first | rfl | simp) hd (Below.refl _ _) rfl
    · intro a wx hb hd hs ho hp
      refine Or.inl ⟨wanted_yes rfl (yielded_at (k := 31) (d := 89) (by kernel_rfl) (show a.tmps.getD 89 undef = _ from facts_at hp 31 89 (by kernel_rfl))), ?_⟩
      have h90 : a.tmps.getD 90 undef = .pointer (some ⟨S, 0, none⟩) := facts_at hp 32 90 (by kernel_rfl)
      unfold Oper.wp
      go_simp
      refine (awake_sigs (HI9.out.below hb)).mono ?_
      rintro e wy ⟨v, rfl, hv, hb9⟩
      exact Stepped.at (v := v) rfl hd hb9 hv
    · intro a wx hb hd hs ho hp
      refine Or.inl ⟨wanted_yes rfl (yielded_at (k := 31) (d := 89) (by kernel_rfl) (show a.tmps.getD 89 undef = _ from facts_at hp 31 89 (by kernel_rfl))), ?_⟩
      have h7 : a.tmps.getD 7 undef = .pointer (some ⟨q5, 0, none⟩) := (ho 7 (by kernel_rfl)).trans rfl
      have hx := (hb.block (q5) (Array.getElem?_eq_some_iff.1 HR5.out).1).trans HR5.out
      have s7 := qslot_of (hs.trans (rfl : _ = 107)) (by decide) h7
      have x0 := cells_at hx 0 _ rfl
      have x1 := cells_at hx 1 _ rfl
      unfold Oper.wp
      go_simp
      exact Stepped.at (v := .agg #[.string ⟨#[112]⟩, .int .i64 2]) (by first | rfl | simp) hd (Below.refl _ _) rfl
    · intro a wx hb hd hs ho hp
      refine Or.inl ⟨wanted_yes rfl (yielded_at (k := 31) (d := 89) (by kernel_rfl) (show a.tmps.getD 89 undef = _ from facts_at hp 31 89 (by kernel_rfl))), ?_⟩
      unfold Oper.wp
      go_simp
      exact Stepped.at (v := .agg #[.string ⟨#[113]⟩, .int .i64 0]) (by first | rfl | simp) hd (Below.refl _ _) rfl
    · intro a wx hb hd hs ho hp
      refine Or.inl ⟨wanted_yes rfl (yielded_at (k := 31) (d := 89) (by kernel_rfl) (show a.tmps.getD 89 undef = _ from facts_at hp 31 89 (by kernel_rfl))), ?_⟩
      have h92 : a.tmps.getD 92 undef = .agg #[.string ⟨#[112]⟩, .int .i64 2] := facts_at hp 34 92 (by kernel_rfl)
      have h93 : a.tmps.getD 93 undef = .agg #[.string ⟨#[113]⟩, .int .i64 0] := facts_at hp 35 93 (by kernel_rfl)
      have s92 := qslot_of (hs.trans (rfl : _ = 107)) (by decide) h92
      have s93 := qslot_of (hs.trans (rfl : _ = 107)) (by decide) h93
      unfold Oper.wp
      go_simp
      refine Stepped.at (v := .slice (some ⟨wx.heap.size, 0, none⟩) 2 2) (by first | rfl | simp) hd ((Below.refl _ wx).alloc (Nat.le_refl _) _) ?_
      exact ⟨rfl, Or.inr ⟨wx.heap.size, 2, _, rfl, Nat.zero_le _, World.alloc_heap_new _ _, Nat.le_refl 2, by unfold maxLen; omega, rfl, rfl⟩⟩
    · intro a wx hb hd hs ho hp
      refine Or.inl ⟨wanted_yes rfl (yielded_at (k := 31) (d := 89) (by kernel_rfl) (show a.tmps.getD 89 undef = _ from facts_at hp 31 89 (by kernel_rfl))), ?_⟩
      have e91 := facts_at hp 33 91 (by kernel_rfl)
      have e94 := facts_at hp 36 94 (by kernel_rfl)
      obtain ⟨va, h91⟩ : ∃ u, a.tmps.getD 91 undef = u := ⟨_, rfl⟩
      obtain ⟨vb, h94⟩ : ∃ u, a.tmps.getD 94 undef = u := ⟨_, rfl⟩
      rw [h91] at e91
      rw [h94] at e94
      unfold Oper.wp
      go_simp
      refine (sameSigs_self _ va vb wx e91 e94).mono ?_
      rintro e wy ⟨rfl, hb9⟩
      exact Stepped.at (v := .bool true) rfl hd hb9 rfl
    · intro a wx hb hd hs ho hp
      refine Or.inl ⟨rfl, ?_⟩
      have h89 : a.tmps.getD 89 undef = .bool true := facts_at hp 31 89 (by kernel_rfl)
      have h95 : a.tmps.getD 95 undef = .bool true := facts_at hp 37 95 (by kernel_rfl)
      unfold Oper.wp
      go_simp
      exact Stepped.at (v := .bool true) (by first | rfl | simp) hd (Below.refl _ _) rfl
    · intro a wx hb hd hs ho hp
      refine Or.inl ⟨rfl, ?_⟩
      have h96 : a.tmps.getD 96 undef = .bool true := facts_at hp 38 96 (by kernel_rfl)
      unfold Oper.wp
      go_simp
      exact Stepped.at (v := .bool true) (by first | rfl | simp) hd (Below.refl _ _) rfl
    · intro a wx hb hd hs ho hp
      refine Or.inl ⟨wanted_yes rfl (yielded_at (k := 39) (d := 97) (by kernel_rfl) (show a.tmps.getD 97 undef = _ from facts_at hp 39 97 (by kernel_rfl))), ?_⟩
      have h5 : a.tmps.getD 5 undef = .pointer (some ⟨S, 0, none⟩) := (ho 5 (by kernel_rfl)).trans rfl
      unfold Oper.wp
      go_simp
      exact Stepped.at (v := .pointer (some ⟨S, 0, none⟩)) (by first | rfl | simp) hd (Below.refl _ _) rfl
    · intro a wx hb hd hs ho hp
      refine Or.inl ⟨wanted_yes rfl (yielded_at (k := 39) (d := 97) (by kernel_rfl) (show a.tmps.getD 97 undef = _ from facts_at hp 39 97 (by kernel_rfl))), ?_⟩
      have h98 : a.tmps.getD 98 undef = .pointer (some ⟨S, 0, none⟩) := facts_at hp 40 98 (by kernel_rfl)
      unfold Oper.wp
      go_simp
      refine (awake_sorted (HI9.out.below hb)).mono ?_
      rintro e wy ⟨v, rfl, hv, hb9⟩
      exact Stepped.at (v := v) rfl hd hb9 hv
    · intro a wx hb hd hs ho hp
      refine Or.inl ⟨wanted_yes rfl (yielded_at (k := 39) (d := 97) (by kernel_rfl) (show a.tmps.getD 97 undef = _ from facts_at hp 39 97 (by kernel_rfl))), ?_⟩
      have h1 : a.tmps.getD 1 undef = .pointer (some ⟨m, 0, none⟩) := (ho 1 (by kernel_rfl)).trans rfl
      have hx := (hb.block (m) (Array.getElem?_eq_some_iff.1 HR1.out).1).trans HR1.out
      have s1 := qslot_of (hs.trans (rfl : _ = 107)) (by decide) h1
      have x0 := cells_at hx 0 _ rfl
      have x1 := cells_at hx 1 _ rfl
      unfold Oper.wp
      go_simp
      exact Stepped.at (v := .agg #[.string ⟨#[112]⟩, .slice (some ⟨g1, 0, none⟩) 2 2]) (by first | rfl | simp) hd (Below.refl _ _) rfl
    · intro a wx hb hd hs ho hp
      refine Or.inl ⟨wanted_yes rfl (yielded_at (k := 39) (d := 97) (by kernel_rfl) (show a.tmps.getD 97 undef = _ from facts_at hp 39 97 (by kernel_rfl))), ?_⟩
      have h2 : a.tmps.getD 2 undef = .pointer (some ⟨m + 1, 0, none⟩) := (ho 2 (by kernel_rfl)).trans rfl
      have hx := (hb.block (m + 1) (Array.getElem?_eq_some_iff.1 HR2.out).1).trans HR2.out
      have s2 := qslot_of (hs.trans (rfl : _ = 107)) (by decide) h2
      have x0 := cells_at hx 0 _ rfl
      have x1 := cells_at hx 1 _ rfl
      unfold Oper.wp
      go_simp
      exact Stepped.at (v := .agg #[.string ⟨#[112]⟩, .slice (some ⟨g2, 0, none⟩) 2 2]) (by first | rfl | simp) hd (Below.refl _ _) rfl
    · intro a wx hb hd hs ho hp
      refine Or.inl ⟨wanted_yes rfl (yielded_at (k := 39) (d := 97) (by kernel_rfl) (show a.tmps.getD 97 undef = _ from facts_at hp 39 97 (by kernel_rfl))), ?_⟩
      have h3 : a.tmps.getD 3 undef = .pointer (some ⟨m + 1 + 1, 0, none⟩) := (ho 3 (by kernel_rfl)).trans rfl
      have hx := (hb.block (m + 1 + 1) (Array.getElem?_eq_some_iff.1 HR3.out).1).trans HR3.out
      have s3 := qslot_of (hs.trans (rfl : _ = 107)) (by decide) h3
      have x0 := cells_at hx 0 _ rfl
      have x1 := cells_at hx 1 _ rfl
      unfold Oper.wp
      go_simp
      exact Stepped.at (v := .agg #[.string ⟨#[112]⟩, .slice (some ⟨g3, 0, none⟩) 2 2]) (by first | rfl | simp) hd (Below.refl _ _) rfl
    · intro a wx hb hd hs ho hp
      refine Or.inl ⟨wanted_yes rfl (yielded_at (k := 39) (d := 97) (by kernel_rfl) (show a.tmps.getD 97 undef = _ from facts_at hp 39 97 (by kernel_rfl))), ?_⟩
      have h4 : a.tmps.getD 4 undef = .pointer (some ⟨m + 1 + 1 + 1, 0, none⟩) := (ho 4 (by kernel_rfl)).trans rfl
      have hx := (hb.block (m + 1 + 1 + 1) (Array.getElem?_eq_some_iff.1 HR4.out).1).trans HR4.out
      have s4 := qslot_of (hs.trans (rfl : _ = 107)) (by decide) h4
      have x0 := cells_at hx 0 _ rfl
      have x1 := cells_at hx 1 _ rfl
      unfold Oper.wp
      go_simp
      exact Stepped.at (v := .agg #[.string ⟨#[113]⟩, .slice none 0 0]) (by first | rfl | simp) hd (Below.refl _ _) rfl
    · intro a wx hb hd hs ho hp
      refine Or.inl ⟨wanted_yes rfl (yielded_at (k := 39) (d := 97) (by kernel_rfl) (show a.tmps.getD 97 undef = _ from facts_at hp 39 97 (by kernel_rfl))), ?_⟩
      have h100 : a.tmps.getD 100 undef = .agg #[.string ⟨#[112]⟩, .slice (some ⟨g1, 0, none⟩) 2 2] := facts_at hp 42 100 (by kernel_rfl)
      have h101 : a.tmps.getD 101 undef = .agg #[.string ⟨#[112]⟩, .slice (some ⟨g2, 0, none⟩) 2 2] := facts_at hp 43 101 (by kernel_rfl)
      have h102 : a.tmps.getD 102 undef = .agg #[.string ⟨#[112]⟩, .slice (some ⟨g3, 0, none⟩) 2 2] := facts_at hp 44 102 (by kernel_rfl)
      have h103 : a.tmps.getD 103 undef = .agg #[.string ⟨#[113]⟩, .slice none 0 0] := facts_at hp 45 103 (by kernel_rfl)
      have s100 := qslot_of (hs.trans (rfl : _ = 107)) (by decide) h100
      have s101 := qslot_of (hs.trans (rfl : _ = 107)) (by decide) h101
      have s102 := qslot_of (hs.trans (rfl : _ = 107)) (by decide) h102
      have s103 := qslot_of (hs.trans (rfl : _ = 107)) (by decide) h103
      unfold Oper.wp
      go_simp
      refine Stepped.at (v := .slice (some ⟨wx.heap.size, 0, none⟩) 4 4) (by first | rfl | simp) hd ((Below.refl _ wx).alloc (Nat.le_refl _) _) ?_
      exact ⟨_, ⟨rfl, Or.inr ⟨wx.heap.size, 4, _, rfl, Nat.zero_le _, World.alloc_heap_new _ _, Nat.le_refl 4, by unfold maxLen; omega, rfl, rfl⟩⟩, ⟨_, _, _, rfl, (HF1.out.below hb).below ((Below.refl _ wx).alloc (Nat.le_refl _) _), _, _, _, rfl, (HF2.out.below hb).below ((Below.refl _ wx).alloc (Nat.le_refl _) _), _, _, _, rfl, (HF3.out.below hb).below ((Below.refl _ wx).alloc (Nat.le_refl _) _), _, _, _, rfl, (HF4.out.below hb).below ((Below.refl _ wx).alloc (Nat.le_refl _) _), rfl⟩⟩
    · intro a wx hb hd hs ho hp
      refine Or.inl ⟨wanted_yes rfl (yielded_at (k := 39) (d := 97) (by kernel_rfl) (show a.tmps.getD 97 undef = _ from facts_at hp 39 97 (by kernel_rfl))), ?_⟩
      have e99 := facts_at hp 41 99 (by kernel_rfl)
      have e104 := facts_at hp 46 104 (by kernel_rfl)
      obtain ⟨va, h99⟩ : ∃ u, a.tmps.getD 99 undef = u := ⟨_, rfl⟩
      obtain ⟨vb, h104⟩ : ∃ u, a.tmps.getD 104 undef = u := ⟨_, rfl⟩
      rw [h99] at e99
      rw [h104] at e104
      unfold Oper.wp
      go_simp
      refine (sameAtoms_self _ va vb wx e99 e104).mono ?_
      rintro e wy ⟨rfl, hb9⟩
      exact Stepped.at (v := .bool true) rfl hd hb9 rfl
    · intro a wx hb hd hs ho hp
      refine Or.inl ⟨rfl, ?_⟩
      have h97 : a.tmps.getD 97 undef = .bool true := facts_at hp 39 97 (by kernel_rfl)
      have h105 : a.tmps.getD 105 undef = .bool true := facts_at hp 47 105 (by kernel_rfl)
      unfold Oper.wp
      go_simp
      exact Stepped.at (v := .bool true) (by first | rfl | simp) hd (Below.refl _ _) rfl
    · intro a wx hb hd hs ho hp
      refine Or.inl ⟨rfl, ?_⟩
      have h106 : a.tmps.getD 106 undef = .bool true := facts_at hp 48 106 (by kernel_rfl)
      unfold Oper.wp
      go_simp
      exact Stepped.at (v := .bool true) (by first | rfl | simp) hd (Below.refl _ _) rfl
  intro ac V10 hJ
  obtain ⟨u58, f58⟩ : ∃ u, ac.tmps.getD 58 undef = u := ⟨_, rfl⟩
  obtain ⟨u59, f59⟩ : ∃ u, ac.tmps.getD 59 undef = u := ⟨_, rfl⟩
  obtain ⟨u60, f60⟩ : ∃ u, ac.tmps.getD 60 undef = u := ⟨_, rfl⟩
  obtain ⟨u61, f61⟩ : ∃ u, ac.tmps.getD 61 undef = u := ⟨_, rfl⟩
  obtain ⟨u62, f62⟩ : ∃ u, ac.tmps.getD 62 undef = u := ⟨_, rfl⟩
  obtain ⟨u63, f63⟩ : ∃ u, ac.tmps.getD 63 undef = u := ⟨_, rfl⟩
  obtain ⟨u64, f64⟩ : ∃ u, ac.tmps.getD 64 undef = u := ⟨_, rfl⟩
  obtain ⟨u65, f65⟩ : ∃ u, ac.tmps.getD 65 undef = u := ⟨_, rfl⟩
  obtain ⟨u66, f66⟩ : ∃ u, ac.tmps.getD 66 undef = u := ⟨_, rfl⟩
  obtain ⟨u67, f67⟩ : ∃ u, ac.tmps.getD 67 undef = u := ⟨_, rfl⟩
  obtain ⟨u68, f68⟩ : ∃ u, ac.tmps.getD 68 undef = u := ⟨_, rfl⟩
  obtain ⟨u69, f69⟩ : ∃ u, ac.tmps.getD 69 undef = u := ⟨_, rfl⟩
  obtain ⟨u70, f70⟩ : ∃ u, ac.tmps.getD 70 undef = u := ⟨_, rfl⟩
  obtain ⟨u71, f71⟩ : ∃ u, ac.tmps.getD 71 undef = u := ⟨_, rfl⟩
  obtain ⟨u72, f72⟩ : ∃ u, ac.tmps.getD 72 undef = u := ⟨_, rfl⟩
  obtain ⟨u73, f73⟩ : ∃ u, ac.tmps.getD 73 undef = u := ⟨_, rfl⟩
  obtain ⟨u74, f74⟩ : ∃ u, ac.tmps.getD 74 undef = u := ⟨_, rfl⟩
  obtain ⟨u75, f75⟩ : ∃ u, ac.tmps.getD 75 undef = u := ⟨_, rfl⟩
  obtain ⟨u76, f76⟩ : ∃ u, ac.tmps.getD 76 undef = u := ⟨_, rfl⟩
  obtain ⟨u77, f77⟩ : ∃ u, ac.tmps.getD 77 undef = u := ⟨_, rfl⟩
  obtain ⟨u78, f78⟩ : ∃ u, ac.tmps.getD 78 undef = u := ⟨_, rfl⟩
  obtain ⟨u79, f79⟩ : ∃ u, ac.tmps.getD 79 undef = u := ⟨_, rfl⟩
  obtain ⟨u80, f80⟩ : ∃ u, ac.tmps.getD 80 undef = u := ⟨_, rfl⟩
  obtain ⟨u81, f81⟩ : ∃ u, ac.tmps.getD 81 undef = u := ⟨_, rfl⟩
  obtain ⟨u82, f82⟩ : ∃ u, ac.tmps.getD 82 undef = u := ⟨_, rfl⟩
  obtain ⟨u83, f83⟩ : ∃ u, ac.tmps.getD 83 undef = u := ⟨_, rfl⟩
  obtain ⟨u84, f84⟩ : ∃ u, ac.tmps.getD 84 undef = u := ⟨_, rfl⟩
  obtain ⟨u85, f85⟩ : ∃ u, ac.tmps.getD 85 undef = u := ⟨_, rfl⟩
  obtain ⟨u86, f86⟩ : ∃ u, ac.tmps.getD 86 undef = u := ⟨_, rfl⟩
  obtain ⟨u87, f87⟩ : ∃ u, ac.tmps.getD 87 undef = u := ⟨_, rfl⟩
  obtain ⟨u88, f88⟩ : ∃ u, ac.tmps.getD 88 undef = u := ⟨_, rfl⟩
  obtain ⟨u89, f89⟩ : ∃ u, ac.tmps.getD 89 undef = u := ⟨_, rfl⟩
  obtain ⟨u90, f90⟩ : ∃ u, ac.tmps.getD 90 undef = u := ⟨_, rfl⟩
  obtain ⟨u91, f91⟩ : ∃ u, ac.tmps.getD 91 undef = u := ⟨_, rfl⟩
  obtain ⟨u92, f92⟩ : ∃ u, ac.tmps.getD 92 undef = u := ⟨_, rfl⟩
  obtain ⟨u93, f93⟩ : ∃ u, ac.tmps.getD 93 undef = u := ⟨_, rfl⟩
  obtain ⟨u94, f94⟩ : ∃ u, ac.tmps.getD 94 undef = u := ⟨_, rfl⟩
  obtain ⟨u95, f95⟩ : ∃ u, ac.tmps.getD 95 undef = u := ⟨_, rfl⟩
  obtain ⟨u96, f96⟩ : ∃ u, ac.tmps.getD 96 undef = u := ⟨_, rfl⟩
  obtain ⟨u97, f97⟩ : ∃ u, ac.tmps.getD 97 undef = u := ⟨_, rfl⟩
  obtain ⟨u98, f98⟩ : ∃ u, ac.tmps.getD 98 undef = u := ⟨_, rfl⟩
  obtain ⟨u99, f99⟩ : ∃ u, ac.tmps.getD 99 undef = u := ⟨_, rfl⟩
  obtain ⟨u100, f100⟩ : ∃ u, ac.tmps.getD 100 undef = u := ⟨_, rfl⟩
  obtain ⟨u101, f101⟩ : ∃ u, ac.tmps.getD 101 undef = u := ⟨_, rfl⟩
  obtain ⟨u102, f102⟩ : ∃ u, ac.tmps.getD 102 undef = u := ⟨_, rfl⟩
  obtain ⟨u103, f103⟩ : ∃ u, ac.tmps.getD 103 undef = u := ⟨_, rfl⟩
  obtain ⟨u104, f104⟩ : ∃ u, ac.tmps.getD 104 undef = u := ⟨_, rfl⟩
  obtain ⟨u105, f105⟩ : ∃ u, ac.tmps.getD 105 undef = u := ⟨_, rfl⟩
  obtain ⟨u106, f106⟩ : ∃ u, ac.tmps.getD 106 undef = u := ⟨_, rfl⟩
  have f0 : ac.tmps.getD 0 undef = .bool true := hJ.at_end 49 0 (by kernel_rfl)
  have hBelow := hJ.below
  obtain ⟨TT, DD⟩ := ac
  obtain rfl : DD = [] := hJ.defers
  have hE := slots_merge [true, false, false, false, false, false, false, false, false, false, false, false, false, false, false, false, false, false, false, false, false, false, false, false, false, false, false, false, false, false, false, false, false, false, false, false, false, false, false, false, false, false, false, false, false, false, false, false, false, false, false, false, false, false, false, false, false, false, true, true, true, true, true, true, true, true, true, true, true, true, true, true, true, true, true, true, true, true, true, true, true, true, true, true, true, true, true, true, true, true, true, true, true, true, true, true, true, true, true, true, true, true, true, true, true, true, true] 107 hJ.tmps rfl (by kernel_rfl) hJ.outer
  simp only [mergeFrom, Nat.zero_add, Nat.reduceAdd, f58, f59, f60, f61, f62, f63, f64, f65, f66, f67, f68, f69, f70, f71, f72, f73, f74, f75, f76, f77, f78, f79, f80, f81, f82, f83, f84, f85, f86, f87, f88, f89, f90, f91, f92, f93, f94, f95, f96, f97, f98, f99, f100, f101, f102, f103, f104, f105, f106, f0] at hE
  clear hst hJ f58 f59 f60 f61 f62 f63 f64 f65 f66 f67 f68 f69 f70 f71 f72 f73 f74 f75 f76 f77 f78 f79 f80 f81 f82 f83 f84 f85 f86 f87 f88 f89 f90 f91 f92 f93 f94 f95 f96 f97 f98 f99 f100 f101 f102 f103 f104 f105 f106 f0
  subst hE
  have HBZ := Lib.hid (HB9'.out.trans (hBelow.mono HB9'.out.size))
  clear hBelow
  refine HK7.out _ _ ?_
  go_wp2
  go_ret
  exact ⟨rfl, HBZ.out⟩
end Go.Proofs.YtcoieohbmkjpoaaGreatDoor
namespace Go.Proofs.YtcoieohbmkjpoaaGreatDoor
open Go.RowKit Go.Shelf Go.Maps
attribute [local go_sem] Oper.semAt_some

set_option maxRecDepth 100000 in
set_option maxHeartbeats 2000000 in
theorem sizeAtom_any (x : Ato) (v0 v1 : Value) (m : Int) (w : World) (h : AtS (fun b => b < w.heap.size) w v0 v1 x) (hm0 : -1000000000 ≤ m) (hm1 : m ≤ 1000000000) :
    Calls Tryz.prog 31 #[.agg #[v0, v1], .int .i64 m] w fun e w' => e = .returned (.int .i64 (1 + sizeL x.2 0 (m - 1))) ∧ Below w.heap.size w w' := by
  obtain ⟨p, us⟩ := x
  obtain ⟨a, cap, rfl, rfl⟩ := h.shape
  show Calls Tryz.prog 31 #[.agg #[.string p, .slice a us.length cap], .int .i64 m] w fun e w' => e = .returned (.int .i64 (1 + sizeL us 0 (m - 1))) ∧ Below w.heap.size w w'
  have hB1 : Below w.heap.size w (w.alloc (.cells #[.string p, .slice a us.length cap] 24)) := (Below.refl _ w).alloc (Nat.le_refl _) _
  have hl : us.length ≤ maxLen := by obtain ⟨_, _, _, _, _, q, _⟩ := h; exact q
  have hS := sizeTerms_any us a cap (m - 1) (w.alloc (.cells #[.string p, .slice a us.length cap] 24)) hl (by omega) (by omega) (fun hne => by obtain ⟨b, off, h1, h2, h3⟩ := h.args (fun _ h => h) hne; exact ⟨b, off, h1, Nat.lt_of_lt_of_le h2 hB1.size, (h3.below hB1 h2).mono hB1.size⟩)
  have hbd := sizeL_bounds us 0 (m - 1)
  obtain ⟨z, hz⟩ : ∃ z, sizeL us 0 (m - 1) = z := ⟨_, rfl⟩
  rw [hz] at hS hbd ⊢
  have HS := Lib.hid hS
  have HB := Lib.hid hB1
  clear hS hB1 h hl hz
  go_enter Tryz.func31, Tryz.ntmps31
  go_wp2_with (go_at_call 63; refine HS.out.mono ?_; rintro e W2 ⟨rfl, hB2⟩)
  have hBf := HB.out.trans (hB2.mono HB.out.size)
  go_ret
  exact ⟨rfl, hBf⟩
/-- A list of atoms that can be read, wherever it lies. -/
def RdL (w : World) (lv : Value) (L : List Ato) : Prop := ∃ a c, lv = .slice a L.length c ∧ L.length ≤ maxLen ∧
  ∀ i (hi : i < L.length), ∃ g off v0 v1, a = some ⟨g, off, none⟩ ∧ w.cell? ⟨g, off + i * 2, none⟩ = some v0 ∧ w.cell? ⟨g, off + i * 2 + 1, none⟩ = some v1 ∧ AtS (fun b => b < w.heap.size) w v0 v1 L[i]
theorem RdL.below {w w' : World} {lv : Value} {L : List Ato} (h : RdL w lv L) (hb : Below w.heap.size w w') : RdL w' lv L := by
  obtain ⟨a, c, e, hl, hr⟩ := h
  refine ⟨a, c, e, hl, fun i hi => ?_⟩
  obtain ⟨g, off, v0, v1, h0, h1, h2, h3⟩ := hr i hi
  exact ⟨g, off, v0, v1, h0, (hb.cell (p := ⟨g, off + i * 2, none⟩) (block_lt_of_cell h1)).trans h1, (hb.cell (p := ⟨g, off + i * 2 + 1, none⟩) (block_lt_of_cell h2)).trans h2, h3.below hb⟩
theorem LstR.rd {w : World} {lv : Value} {L : List Ato} (h : LstR w lv L) : RdL w lv L := by
  obtain ⟨a, c, e⟩ : ∃ a c, lv = .slice a L.length c := by obtain ⟨xs, ho, _⟩ := h; exact own_slice ho
  have hl : L.length ≤ maxLen := by
    obtain ⟨xs, ho, _⟩ := h
    rcases ho.2 with ⟨_, e⟩ | ⟨g, cap, cur, e, _, _, h1, h2, _⟩
    · rw [e]; exact Nat.zero_le _
    · exact Nat.le_trans h1 h2
  refine ⟨a, c, e, hl, fun i hi => ?_⟩
  obtain ⟨g, c', a', k, e', h0, h1, h2⟩ := h.at i hi
  rw [e] at e'
  simp only [Value.slice.injEq] at e'
  exact ⟨g, 0, _, _, e'.1, by simpa using h0, by simpa using h1, h2⟩
/-- What great tells. -/
def GreatR (L : List Ato) (w : World) (e : Ending) (w' : World) : Prop := ∃ b : Bool, e = .returned (.bool b) ∧ (b = false → L.length ≤ 150 ∧ ∀ x ∈ L, cntA x ≤ 2000) ∧ Below w.heap.size w w'
set_option maxRecDepth 100000 in
set_option maxHeartbeats 4000000 in
theorem great_any (L : List Ato) (lv : Value) (w : World) (h : RdL w lv L) :
    Calls Tryz.prog 8 #[lv] w (GreatR L w) := by
  obtain ⟨a, c, rfl, hl0, hrd⟩ := h
  have hl : L.length ≤ 9223372036854775807 := by unfold maxLen at hl0; exact hl0
  have HA := Lib.hid (show RdL w (.slice a L.length c) L from ⟨a, c, rfl, hl0, hrd⟩)
  clear hrd hl0
  go_enter Tryz.func8, Tryz.ntmps8
  go_wp2_with fail
  go_loopw [3, 4] (fun v i wr => ∃ (j : Nat) (n : Int), j ≤ L.length ∧ v = .int .i64 n ∧ i = .int .i64 j ∧ 0 ≤ n ∧ n ≤ 2001 ∧ Hid (n ≤ 2000 → ∀ x ∈ L.take j, cntA x ≤ 2000) ∧ Below w.heap.size w wr) (fun _ i _ => L.length - (intOf i).toNat)
  case atStart => exact ⟨0, 0, by omega, by go_num, by go_num, by omega, by omega, Lib.hid (fun _ x hx => by simp at hx), Below.refl _ _⟩
  case round =>
    obtain ⟨j, n, hj, rfl, rfl, hn0, hn1, hk, hBr⟩ := hrel
    by_cases hlt : j < L.length
    · by_cases hle : n ≤ 2000
      · obtain ⟨a2, c2, e, _, hrd⟩ := HA.out.below hBr
        simp only [Value.slice.injEq] at e
        obtain ⟨rfl, _, rfl⟩ := e
        obtain ⟨g, off, y0, y1, rfl, g0, g1, hx⟩ := hrd j hlt
        clear hrd
        have hS := sizeAtom_any L[j] _ _ (2000 - n) wr hx (by omega) (by omega)
        have hbd := sizeL_bounds L[j].2 0 (2000 - n - 1)
        have hwh := sizeL_whole L[j].2 0 (2000 - n - 1)
        obtain ⟨z, hz⟩ : ∃ z, sizeL L[j].2 0 (2000 - n - 1) = z := ⟨_, rfl⟩
        rw [hz] at hS hbd hwh
        have hnew : Hid (n + (1 + z) ≤ 2000 → ∀ x ∈ L.take (j + 1), cntA x ≤ 2000) := Lib.hid (fun hle2 x hx => by
          rw [List.take_succ_eq_append_getElem hlt] at hx
          rcases List.mem_append.1 hx with hx | hx
          · exact hk.out hle x hx
          · rw [List.mem_singleton.1 hx]
            have := hwh (by omega)
            unfold cntA
            omega)
        have HS := Lib.hid hS
        have HBR := Lib.hid hBr
        clear hS hx hwh hBr hz hk
        have i1 : (0 : Int) ≤ (j : Int) := by omega
        have i2 : (j : Int) < (L.length : Int) := by omega
        go_wp2_with (go_at_call 31; refine HS.out.mono ?_; rintro e w2 ⟨rfl, hb2⟩; have HB2 := Lib.hid hb2; clear hb2)
        go_roundw
        case rel => exact ⟨j + 1, n + (1 + z), by omega, by go_num, by go_num, by omega, by omega, hnew, HBR.out.trans (HB2.out.mono HBR.out.size)⟩
        case measure => simp [intOf]; omega
      · have HB := Lib.hid hBr
        clear hBr hk
        by_cases h150 : L.length ≤ 150
        · go_wp2
          go_ret
          exact ⟨_, rfl, fun hb => (by first | (cases hb; done) | (exfalso; simp at hb; omega)), HB.out⟩
        · go_wp2
          go_ret
          exact ⟨_, rfl, fun hb => (by first | (cases hb; done) | (exfalso; simp at hb; omega)), HB.out⟩
    · have HB := Lib.hid hBr
      clear hBr
      have hj2 : j = L.length := by omega
      by_cases h150 : L.length ≤ 150
      · by_cases hle : n ≤ 2000
        · have hall := hk.out hle
          rw [hj2, List.take_length] at hall
          have HALL := Lib.hid hall
          clear hall hk
          go_wp2
          go_ret
          exact ⟨_, rfl, fun _ => ⟨h150, HALL.out⟩, HB.out⟩
        · clear hk
          go_wp2
          go_ret
          exact ⟨_, rfl, fun hb => (by first | (cases hb; done) | (exfalso; simp at hb; omega)), HB.out⟩
      · clear hk
        go_wp2
        go_ret
        exact ⟨_, rfl, fun hb => (by first | (cases hb; done) | (exfalso; simp at hb; omega)), HB.out⟩
end Go.Proofs.YtcoieohbmkjpoaaGreatDoor
namespace Go.Proofs.YtcoieohbmkjpoaaGreatDoor
open Go.RowKit Go.Shelf Go.Maps
attribute [local go_sem] Oper.semAt_some

theorem anyA_iff (L : List Ato) (x : Ato) : L.any (fun y => sameA y x) = true ↔ x ∈ L := by
  rw [List.any_eq_true]
  constructor
  · rintro ⟨y, hy, h⟩
    rw [sameA_iff] at h
    exact h ▸ hy
  · exact fun h => ⟨x, h, (sameA_iff _ _).2 rfl⟩
set_option maxRecDepth 100000 in
set_option maxHeartbeats 2000000 in
theorem in11_any (L : List Ato) (lv : Value) (x : Ato) (v0 v1 : Value) (w : World) (h : LstR w lv L) (hx : AtS (fun b => b < w.heap.size) w v0 v1 x) :
    Calls Tryz.prog 16 #[lv, .agg #[v0, v1]] w fun e w' => e = .returned (.bool (L.any fun y => sameA y x)) ∧ Below w.heap.size w w' := by
  obtain ⟨a, c, rfl⟩ : ∃ a c, lv = .slice a L.length c := by obtain ⟨xs, ho, _⟩ := h; exact own_slice ho
  obtain ⟨p, us⟩ := x
  obtain ⟨ax, cx, rfl, rfl⟩ := hx.shape
  have hl : L.length ≤ 9223372036854775807 := by
    obtain ⟨xs, ho, _⟩ := h
    rcases ho.2 with ⟨_, e⟩ | ⟨g, cap, cur, e, _, _, h1, h2, _⟩
    · omega
    · unfold maxLen at h2; omega
  obtain ⟨R, hR⟩ : ∃ R, (L.any fun y => sameA y (p, us)) = R := ⟨_, rfl⟩
  rw [hR]
  obtain ⟨W, hW⟩ : ∃ W, w.alloc (.cells #[.string p, .slice ax us.length cx] 24) = W := ⟨_, rfl⟩
  have hb : Below w.heap.size w W := by rw [← hW]; exact (Below.refl _ _).alloc (Nat.le_refl _) _
  have hr : W.heap[w.heap.size]? = some (.cells #[.string p, .slice ax us.length cx] 24 (0, 0)) := by rw [← hW]; exact World.alloc_heap_new _ _
  have HA := Lib.hid (h.below hb)
  have HX := Lib.hid (hx.below hb)
  have HB := Lib.hid hb
  have HRW := Lib.hid hr
  clear h hx hb hr
  go_enter Tryz.func16, Tryz.ntmps16
  go_wp2_with fail
  try rw [hW]
  clear hW
  go_loopw [5] (fun i wr => ∃ (j : Nat), j ≤ L.length ∧ i = .int .i64 j ∧ ((L.drop j).any fun y => sameA y (p, us)) = R ∧ Below W.heap.size W wr) (fun i _ => L.length - (intOf i).toNat)
  case atStart => exact ⟨0, by omega, by go_num, by simpa using hR, Below.refl _ _⟩
  case round =>
    obtain ⟨j, hj, rfl, hk, hBr⟩ := hrel
    clear hR
    by_cases hlt : j < L.length
    · rw [List.drop_eq_getElem_cons hlt, List.any_cons] at hk
      obtain ⟨g, cc, b, k, e, g0, g1, hy⟩ := (HA.out.below hBr).at j hlt
      simp only [Value.slice.injEq] at e
      obtain ⟨rfl, _, rfl⟩ := e
      have hrow := (hBr.block w.heap.size (Array.getElem?_eq_some_iff.1 HRW.out).1).trans HRW.out
      have z0 := cells_at hrow 0 _ rfl
      have z1 := cells_at hrow 1 _ rfl
      have HS := Lib.hid (sameAtom_any L[j] (p, us) _ _ _ _ wr.drew (hy.below (Below.refl _ wr).drew) ((HX.out.below hBr).below (Below.refl _ wr).drew))
      have HBD := Lib.hid (show Below W.heap.size W wr.drew from hBr.drew)
      have HSD := Lib.hid (show W.heap.size ≤ wr.drew.heap.size from hBr.size)
      obtain ⟨y, hy1⟩ : ∃ y, L[j] = y := ⟨_, rfl⟩
      rw [hy1] at hk HS g0 g1
      obtain ⟨q, vs⟩ := y
      simp only at g0 g1 HS
      cases hs : sameA (q, vs) (p, us)
      all_goals
        rw [hs] at hk HS
        first | rw [Bool.true_or] at hk | rw [Bool.false_or] at hk
        have HK := Lib.hid hk
        clear hy hs hk hy1 hrow hBr
        have i1 : (0 : Int) ≤ (j : Int) := by omega
        have i2 : (j : Int) < (L.length : Int) := by omega
        go_wp2_with fail
        go_still_tail 5, (by kernel_rfl)
        change wpList _ _ _ _ _ wr.drew
        go_wp2_with (go_at_call 20; refine HS.out.mono ?_)
        clear HS
        rintro e W2 ⟨rfl, hB2⟩
        have HB2 := Lib.hid (show Below W.heap.size W W2 from HBD.out.trans (hB2.mono HSD.out))
        clear hB2
        go_wp2_with fail
      · go_roundw
        case rel => exact ⟨j + 1, by omega, by go_num, HK.out, HB2.out⟩
        case measure => simp [intOf]; omega
      · go_ret
        exact ⟨by rw [← HK.out]; rfl, below_then HB.out HB2.out⟩
    · rw [List.drop_eq_nil_of_le (by omega), List.any_nil] at hk
      subst hk
      have HBR := Lib.hid hBr
      clear hBr
      go_wp2
      go_ret
      exact ⟨rfl, below_then HB.out HBR.out⟩
end Go.Proofs.YtcoieohbmkjpoaaGreatDoor
namespace Go.Proofs.YtcoieohbmkjpoaaGreatDoor
open Go.RowKit Go.Shelf Go.Maps
attribute [local go_sem] Oper.semAt_some

open Classical in
set_option maxRecDepth 100000 in
set_option maxHeartbeats 4000000 in
theorem has_row (B S : Nat) (lab : Lab) (L : List Ato) (x : Ato) (v0 v1 : Value) (w : World) (hI : StI w B lab S L) (hx : AtS (fun b => b < w.heap.size) w v0 v1 x) (hc : cntA x ≤ 1000000) :
    Calls Tryz.prog 17 #[.pointer (some ⟨S, 0, none⟩), .agg #[v0, v1]] w fun e w' => e = .returned (.bool (decide (x ∈ L))) ∧ Below w.heap.size w w' := by
  obtain ⟨p, us⟩ := x
  obtain ⟨av, cap, rfl, rfl⟩ := hx.shape
  obtain ⟨W, hW⟩ : ∃ W, w.alloc (.cells #[.string p, .slice av us.length cap] 24) = W := ⟨_, rfl⟩
  have hb : Below w.heap.size w W := by rw [← hW]; exact (Below.refl _ _).alloc (Nat.le_refl _) _
  have hr : W.heap[w.heap.size]? = some (.cells #[.string p, .slice av us.length cap] 24 (0, 0)) := by rw [← hW]; exact World.alloc_heap_new _ _
  have hI2 := hI.below hb
  obtain ⟨la, lc, m1, m2, m3, h0, hn, _⟩ := hI2.row
  have HA := Lib.hid (hx.below hb)
  have HX := Lib.hid hr
  have HB := Lib.hid hb
  have HC := Lib.hid hc
  have HT := Lib.hid hI2.tab
  have HS := Lib.hid h0
  cases hv : validA (p, us) with
  | false =>
    have hq : decide ((p, us) ∈ L) = false := decide_eq_false fun h => by
      have := (hI.good _ h).1
      rw [hv] at this
      cases this
    rw [hq]
    have HV := Lib.hid hv
    clear hx hb hr hI2 hI hn h0 hv hq
    go_enter Tryz.func17, Tryz.ntmps17
    go_wp2_with fail
    try rw [hW]
    clear hW
    have hst := @FL_grow [fV (.agg #[.string p, .slice av us.length cap]), fV (.bool false), fV (.bool false), fAny, fAny, fAny, fAny, fV (.bool false), fV (.bool false)] (by
      intro F hF
      simp only [List.mem_cons, List.not_mem_nil, or_false] at hF
      rcases hF with rfl | rfl | rfl | rfl | rfl | rfl | rfl | rfl | rfl <;> first | exact fV_stays _ | exact fAny_stays)
    refine wp_region_grow_orB (by kernel_rfl) (FL [fV (.agg #[.string p, .slice av us.length cap]), fV (.bool false), fV (.bool false), fAny, fAny, fAny, fAny, fV (.bool false), fV (.bool false)]) hst (by kernel_rfl) (steps_or ?_) ?_
    · refine ⟨?_, ?_, ?_, ?_, ?_, ?_, ?_, ?_, ?_, trivial⟩
      · intro a wx hb hd hs ho hp
        refine Or.inl ⟨rfl, ?_⟩
        have h3 : a.tmps.getD 3 undef = .pointer (some ⟨w.heap.size, 0, none⟩) := (ho 3 (by kernel_rfl)).trans rfl
        have hx := (hb.block w.heap.size (Array.getElem?_eq_some_iff.1 HX.out).1).trans HX.out
        have s3 := qslot_of (hs.trans (rfl : _ = 13)) (by decide) h3
        have x0 := cells_at hx 0 _ rfl
        have x1 := cells_at hx 1 _ rfl
        unfold Oper.wp
        go_simp
        exact Stepped.at (v := .agg #[.string p, .slice av us.length cap]) (by first | rfl | simp) hd (Below.refl _ _) rfl
      · intro a wx hb hd hs ho hp
        refine Or.inl ⟨rfl, ?_⟩
        have h5 : a.tmps.getD 5 undef = .agg #[.string p, .slice av us.length cap] := facts_at hp 0 5 (by kernel_rfl)
        unfold Oper.wp
        go_simp
        refine (HV.out ▸ validA_any (p, us) av cap _ wx (HA.out.below hb) (fun b h => h) HC.out).mono ?_
        rintro e w9 ⟨rfl, hb9⟩
        exact Stepped.at (v := .bool false) rfl hd (hb9) rfl
      · intro a wx hb hd hs ho hp
        refine Or.inl ⟨rfl, ?_⟩
        have h6 : a.tmps.getD 6 undef = .bool false := facts_at hp 1 6 (by kernel_rfl)
        unfold Oper.wp
        go_simp
        exact Stepped.at (v := .bool false) (by first | rfl | simp) hd (Below.refl _ _) rfl
      · intro a wx hb hd hs ho hp
        exact Or.inr ⟨wanted_no rfl (yielded_at (k := 2) (d := 7) (by kernel_rfl) (show a.tmps.getD 7 undef = _ from facts_at hp 2 7 (by kernel_rfl))), fun _ _ => trivial⟩
      · intro a wx hb hd hs ho hp
        exact Or.inr ⟨wanted_no rfl (yielded_at (k := 2) (d := 7) (by kernel_rfl) (show a.tmps.getD 7 undef = _ from facts_at hp 2 7 (by kernel_rfl))), fun _ _ => trivial⟩
      · intro a wx hb hd hs ho hp
        exact Or.inr ⟨wanted_no rfl (yielded_at (k := 2) (d := 7) (by kernel_rfl) (show a.tmps.getD 7 undef = _ from facts_at hp 2 7 (by kernel_rfl))), fun _ _ => trivial⟩
      · intro a wx hb hd hs ho hp
        exact Or.inr ⟨wanted_no rfl (yielded_at (k := 2) (d := 7) (by kernel_rfl) (show a.tmps.getD 7 undef = _ from facts_at hp 2 7 (by kernel_rfl))), fun _ _ => trivial⟩
      · intro a wx hb hd hs ho hp
        refine Or.inl ⟨rfl, ?_⟩
        have h7 : a.tmps.getD 7 undef = .bool false := facts_at hp 2 7 (by kernel_rfl)
        have h11 := facts_at hp 6 11 (by kernel_rfl)
        unfold Oper.wp
        go_simp
        exact Stepped.at (v := .bool false) (by first | rfl | simp) hd (Below.refl _ _) rfl
      · intro a wx hb hd hs ho hp
        refine Or.inl ⟨rfl, ?_⟩
        have h12 : a.tmps.getD 12 undef = .bool false := facts_at hp 7 12 (by kernel_rfl)
        unfold Oper.wp
        go_simp
        exact Stepped.at (v := .bool false) (by first | rfl | simp) hd (Below.refl _ _) rfl
    intro ac W2 hJ
    obtain ⟨u5, f5⟩ : ∃ u, ac.tmps.getD 5 undef = u := ⟨_, rfl⟩
    obtain ⟨u6, f6⟩ : ∃ u, ac.tmps.getD 6 undef = u := ⟨_, rfl⟩
    obtain ⟨u7, f7⟩ : ∃ u, ac.tmps.getD 7 undef = u := ⟨_, rfl⟩
    obtain ⟨u8, f8⟩ : ∃ u, ac.tmps.getD 8 undef = u := ⟨_, rfl⟩
    obtain ⟨u9, f9⟩ : ∃ u, ac.tmps.getD 9 undef = u := ⟨_, rfl⟩
    obtain ⟨u10, f10⟩ : ∃ u, ac.tmps.getD 10 undef = u := ⟨_, rfl⟩
    obtain ⟨u11, f11⟩ : ∃ u, ac.tmps.getD 11 undef = u := ⟨_, rfl⟩
    obtain ⟨u12, f12⟩ : ∃ u, ac.tmps.getD 12 undef = u := ⟨_, rfl⟩
    have f4 : ac.tmps.getD 4 undef = .bool false := hJ.at_end 8 4 (by kernel_rfl)
    have hBelow := hJ.below
    obtain ⟨TT, DD⟩ := ac
    obtain rfl : DD = [] := hJ.defers
    have hE := slots_merge [false, false, false, false, true, true, true, true, true, true, true, true, true] 13 hJ.tmps rfl (by kernel_rfl) hJ.outer
    simp only [mergeFrom, Nat.zero_add, Nat.reduceAdd, f5, f6, f7, f8, f9, f10, f11, f12, f4] at hE
    clear hst hJ f5 f6 f7 f8 f9 f10 f11 f12 f4
    subst hE
    have HBW := Lib.hid (HB.out.trans (hBelow.mono HB.out.size))
    clear hBelow
    go_wp2
    go_ret
    exact ⟨rfl, HBW.out⟩
  | true =>
    obtain ⟨q, hq⟩ : ∃ q, decide ((p, us) ∈ L) = q := ⟨_, rfl⟩
    have hlk : ∀ wx, Below W.heap.size W wx → ∃ v, (Instr.lookup 53 (.map (some m1)) (.string (atB (p, us))) true).run Tryz.prog wx = .ok (.tuple #[v, .bool q]) wx := fun wx hwx => by
      obtain ⟨D, ho, hd⟩ := hn
      have hl := look_num ⟨D, ho, hd⟩ (hwx.block m1 ho.lt) (fun y hy => (hI.good y hy).1) (p, us) hv (Nat.le_trans (atB_size HA.out (fun _ h => h) hc hv) (by unfold maxLen; omega))
      rw [← hq]
      exact hl
    rw [hq]
    have HLK := Lib.hid hlk
    have HV := Lib.hid hv
    clear hx hb hr hI2 hI hn h0 hv hq hlk
    go_enter Tryz.func17, Tryz.ntmps17
    go_wp2_with fail
    try rw [hW]
    clear hW
    have hst := @FL_grow [fV (.agg #[.string p, .slice av us.length cap]), fV (.bool true), fV (.bool true), fV (.pointer (some ⟨S, 0, none⟩)), fV (.agg #[.slice la L.length lc, .map (some m1), .map (some m2), .map (some m3)]), fV (.agg #[.string p, .slice av us.length cap]), fV (.bool q), fV (.bool q), fV (.bool q)] (by
      intro F hF
      simp only [List.mem_cons, List.not_mem_nil, or_false] at hF
      rcases hF with rfl | rfl | rfl | rfl | rfl | rfl | rfl | rfl | rfl <;> first | exact fV_stays _)
    refine wp_region_grow_orB (by kernel_rfl) (FL [fV (.agg #[.string p, .slice av us.length cap]), fV (.bool true), fV (.bool true), fV (.pointer (some ⟨S, 0, none⟩)), fV (.agg #[.slice la L.length lc, .map (some m1), .map (some m2), .map (some m3)]), fV (.agg #[.string p, .slice av us.length cap]), fV (.bool q), fV (.bool q), fV (.bool q)]) hst (by kernel_rfl) (steps_or ?_) ?_
    · refine ⟨?_, ?_, ?_, ?_, ?_, ?_, ?_, ?_, ?_, trivial⟩
      · intro a wx hb hd hs ho hp
        refine Or.inl ⟨rfl, ?_⟩
        have h3 : a.tmps.getD 3 undef = .pointer (some ⟨w.heap.size, 0, none⟩) := (ho 3 (by kernel_rfl)).trans rfl
        have hx := (hb.block w.heap.size (Array.getElem?_eq_some_iff.1 HX.out).1).trans HX.out
        have s3 := qslot_of (hs.trans (rfl : _ = 13)) (by decide) h3
        have x0 := cells_at hx 0 _ rfl
        have x1 := cells_at hx 1 _ rfl
        unfold Oper.wp
        go_simp
        exact Stepped.at (v := .agg #[.string p, .slice av us.length cap]) (by first | rfl | simp) hd (Below.refl _ _) rfl
      · intro a wx hb hd hs ho hp
        refine Or.inl ⟨rfl, ?_⟩
        have h5 : a.tmps.getD 5 undef = .agg #[.string p, .slice av us.length cap] := facts_at hp 0 5 (by kernel_rfl)
        unfold Oper.wp
        go_simp
        refine (HV.out ▸ validA_any (p, us) av cap _ wx (HA.out.below hb) (fun b h => h) HC.out).mono ?_
        rintro e w9 ⟨rfl, hb9⟩
        exact Stepped.at (v := .bool true) rfl hd (hb9) rfl
      · intro a wx hb hd hs ho hp
        refine Or.inl ⟨rfl, ?_⟩
        have h6 : a.tmps.getD 6 undef = .bool true := facts_at hp 1 6 (by kernel_rfl)
        unfold Oper.wp
        go_simp
        exact Stepped.at (v := .bool true) (by first | rfl | simp) hd (Below.refl _ _) rfl
      · intro a wx hb hd hs ho hp
        refine Or.inl ⟨wanted_yes rfl (yielded_at (k := 2) (d := 7) (by kernel_rfl) (show a.tmps.getD 7 undef = _ from facts_at hp 2 7 (by kernel_rfl))), ?_⟩
        have h0 : a.tmps.getD 0 undef = .pointer (some ⟨S, 0, none⟩) := (ho 0 (by kernel_rfl)).trans rfl
        unfold Oper.wp
        go_simp
        exact Stepped.at (v := .pointer (some ⟨S, 0, none⟩)) (by first | rfl | simp) hd (Below.refl _ _) rfl
      · intro a wx hb hd hs ho hp
        refine Or.inl ⟨wanted_yes rfl (yielded_at (k := 2) (d := 7) (by kernel_rfl) (show a.tmps.getD 7 undef = _ from facts_at hp 2 7 (by kernel_rfl))), ?_⟩
        have h8 : a.tmps.getD 8 undef = .pointer (some ⟨S, 0, none⟩) := facts_at hp 3 8 (by kernel_rfl)
        unfold Oper.wp
        go_simp
        refine (content_row S la L.length lc (some m1) (some m2) (some m3) wx ((hb.block S (Array.getElem?_eq_some_iff.1 HS.out).1).trans HS.out)).mono ?_
        rintro e w9 ⟨rfl, hb9⟩
        exact Stepped.at (v := .agg #[.slice la L.length lc, .map (some m1), .map (some m2), .map (some m3)]) rfl hd (hb9) rfl
      · intro a wx hb hd hs ho hp
        refine Or.inl ⟨wanted_yes rfl (yielded_at (k := 2) (d := 7) (by kernel_rfl) (show a.tmps.getD 7 undef = _ from facts_at hp 2 7 (by kernel_rfl))), ?_⟩
        have h3 : a.tmps.getD 3 undef = .pointer (some ⟨w.heap.size, 0, none⟩) := (ho 3 (by kernel_rfl)).trans rfl
        have hx := (hb.block w.heap.size (Array.getElem?_eq_some_iff.1 HX.out).1).trans HX.out
        have s3 := qslot_of (hs.trans (rfl : _ = 13)) (by decide) h3
        have x0 := cells_at hx 0 _ rfl
        have x1 := cells_at hx 1 _ rfl
        unfold Oper.wp
        go_simp
        exact Stepped.at (v := .agg #[.string p, .slice av us.length cap]) (by first | rfl | simp) hd (Below.refl _ _) rfl
      · intro a wx hb hd hs ho hp
        refine Or.inl ⟨wanted_yes rfl (yielded_at (k := 2) (d := 7) (by kernel_rfl) (show a.tmps.getD 7 undef = _ from facts_at hp 2 7 (by kernel_rfl))), ?_⟩
        have h9 : a.tmps.getD 9 undef = .agg #[.slice la L.length lc, .map (some m1), .map (some m2), .map (some m3)] := facts_at hp 4 9 (by kernel_rfl)
        have h10 : a.tmps.getD 10 undef = .agg #[.string p, .slice av us.length cap] := facts_at hp 5 10 (by kernel_rfl)
        have hx := contains_any (p, us) av cap la L.length lc (.map (some m1)) (.map (some m2)) (.map (some m3)) q wx (HA.out.below hb) HC.out HV.out (HT.out.below hb) (Or.inr ⟨_, rfl⟩) ⟨_, rfl⟩ ⟨_, rfl⟩ (fun wy hy => HLK.out wy (hb.trans (hy.mono hb.size)))
        unfold Oper.wp
        go_simp
        refine (hx).mono ?_
        rintro e w9 ⟨rfl, hb9⟩
        exact Stepped.at (v := .bool q) rfl hd (hb9) rfl
      · intro a wx hb hd hs ho hp
        refine Or.inl ⟨rfl, ?_⟩
        have h7 : a.tmps.getD 7 undef = .bool true := facts_at hp 2 7 (by kernel_rfl)
        have h11 : a.tmps.getD 11 undef = .bool q := facts_at hp 6 11 (by kernel_rfl)
        unfold Oper.wp
        go_simp
        exact Stepped.at (v := .bool q) (by first | rfl | simp) hd (Below.refl _ _) rfl
      · intro a wx hb hd hs ho hp
        refine Or.inl ⟨rfl, ?_⟩
        have h12 : a.tmps.getD 12 undef = .bool q := facts_at hp 7 12 (by kernel_rfl)
        unfold Oper.wp
        go_simp
        exact Stepped.at (v := .bool q) (by first | rfl | simp) hd (Below.refl _ _) rfl
    intro ac W2 hJ
    obtain ⟨u5, f5⟩ : ∃ u, ac.tmps.getD 5 undef = u := ⟨_, rfl⟩
    obtain ⟨u6, f6⟩ : ∃ u, ac.tmps.getD 6 undef = u := ⟨_, rfl⟩
    obtain ⟨u7, f7⟩ : ∃ u, ac.tmps.getD 7 undef = u := ⟨_, rfl⟩
    obtain ⟨u8, f8⟩ : ∃ u, ac.tmps.getD 8 undef = u := ⟨_, rfl⟩
    obtain ⟨u9, f9⟩ : ∃ u, ac.tmps.getD 9 undef = u := ⟨_, rfl⟩
    obtain ⟨u10, f10⟩ : ∃ u, ac.tmps.getD 10 undef = u := ⟨_, rfl⟩
    obtain ⟨u11, f11⟩ : ∃ u, ac.tmps.getD 11 undef = u := ⟨_, rfl⟩
    obtain ⟨u12, f12⟩ : ∃ u, ac.tmps.getD 12 undef = u := ⟨_, rfl⟩
    have f4 : ac.tmps.getD 4 undef = .bool q := hJ.at_end 8 4 (by kernel_rfl)
    have hBelow := hJ.below
    obtain ⟨TT, DD⟩ := ac
    obtain rfl : DD = [] := hJ.defers
    have hE := slots_merge [false, false, false, false, true, true, true, true, true, true, true, true, true] 13 hJ.tmps rfl (by kernel_rfl) hJ.outer
    simp only [mergeFrom, Nat.zero_add, Nat.reduceAdd, f5, f6, f7, f8, f9, f10, f11, f12, f4] at hE
    clear hst hJ f5 f6 f7 f8 f9 f10 f11 f12 f4
    subst hE
    have HBW := Lib.hid (HB.out.trans (hBelow.mono HB.out.size))
    clear hBelow
    go_wp2
    go_ret
    exact ⟨rfl, HBW.out⟩
end Go.Proofs.YtcoieohbmkjpoaaGreatDoor
namespace Go.Proofs.YtcoieohbmkjpoaaGreatDoor
open Go.RowKit Go.ChangeShapes

theorem addr_add (a : Addr) (n : Nat) (h : a.spot = none) : a.add n = ⟨a.block, a.off + n, none⟩ := by
  unfold Addr.add
  obtain ⟨b, o, s⟩ := a
  subst h
  by_cases hn : n = 0 <;> simp [hn]
theorem cell_spot {w : World} {a : Addr} {v : Value} (h : w.cell? a = some v) : a.spot = none := by
  unfold World.cell? at h
  cases hs : a.spot with
  | none => rfl
  | some s => simp [hs] at h; split at h <;> simp at h

/-- The elements of a slice of terms, from the last on. -/
theorem tms_of {w : World} {b off len : Nat} (hel : ∀ i, i < len → ∃ c0 c1 c2 c3 t, w.cell? ⟨b, off + i * 4, none⟩ = some c0 ∧ w.cell? ⟨b, off + i * 4 + 1, none⟩ = some c1 ∧ w.cell? ⟨b, off + i * 4 + 2, none⟩ = some c2 ∧ w.cell? ⟨b, off + i * 4 + 3, none⟩ = some c3 ∧ IsTm w.heap.size w c0 c1 c2 c3 t) :
    ∀ k, k ≤ len → ∃ ts : List Tm, ts.length = k ∧ IsTms w.heap.size w b (off + (len - k) * 4) ts := by
  intro k
  induction k with
  | zero => intro _; exact ⟨[], rfl, by simp only [IsTms]⟩
  | succ k ih =>
    intro hk
    obtain ⟨ts, hl, ht⟩ := ih (by omega)
    obtain ⟨c0, c1, c2, c3, t, h0, h1, h2, h3, hi⟩ := hel (len - (k + 1)) (by omega)
    refine ⟨t :: ts, by simp [hl], ?_⟩
    simp only [IsTms]
    refine ⟨c0, c1, c2, c3, h0, h1, h2, h3, hi, ?_⟩
    have e : off + (len - (k + 1)) * 4 + 4 = off + (len - k) * 4 := by omega
    rw [e]
    exact ht

set_option maxRecDepth 100000 in
theorem isTm_of_trod {H : Type} {enc : TypeId × Value → H} {w : World} {sp : Nat → Bool} {held : Bool} (n : Nat) : ∀ (cs : List Value) (x : DataW H × List MemPlace),
    DataW.trod enc Tryz.prog w 0 sp held n 46 cs = some x → ∃ c0 c1 c2 c3 t, cs = [c0, c1, c2, c3] ∧ IsTm w.heap.size w c0 c1 c2 c3 t := by
  induction n using Nat.strongRecOn with
  | ind n ih =>
    intro cs x h
    obtain ⟨xs, m, rfl, rfl, hl, hlen, hf⟩ := DataW.trod_struct Tryz.underlying46 h
    rw [show Tryz.prog.cellsOf 46 = 4 by kernel_rfl] at hl
    match cs, hl, xs, hlen with
    | [c0, c1, c2, c3], _, [y0, y1, y2, y3], _ =>
      have g0 : DataW.trod enc Tryz.prog w 0 sp held m 5 (List.take (Tryz.prog.cellsOf 5) (List.drop 0 [c0, c1, c2, c3])) = some y0 := hf 0 _ rfl
      have g1 : DataW.trod enc Tryz.prog w 0 sp held m 3 (List.take (Tryz.prog.cellsOf 3) (List.drop 1 [c0, c1, c2, c3])) = some y1 := hf 1 _ rfl
      have g2 : DataW.trod enc Tryz.prog w 0 sp held m 9 (List.take (Tryz.prog.cellsOf 9) (List.drop 2 [c0, c1, c2, c3])) = some y2 := hf 2 _ rfl
      have g3 : DataW.trod enc Tryz.prog w 0 sp held m 22 (List.take (Tryz.prog.cellsOf 22) (List.drop 3 [c0, c1, c2, c3])) = some y3 := hf 3 _ rfl
      simp only [show Tryz.prog.cellsOf 5 = 1 by kernel_rfl, show Tryz.prog.cellsOf 3 = 1 by kernel_rfl, show Tryz.prog.cellsOf 9 = 1 by kernel_rfl, show Tryz.prog.cellsOf 22 = 1 by kernel_rfl, List.drop, List.take] at g0 g1 g2 g3
      obtain ⟨k, e0, _, hk⟩ := DataW.trod_int Tryz.underlying5 g0
      obtain ⟨v, e1, _, hv⟩ := DataW.trod_int Tryz.underlying3 g1
      obtain ⟨s, e2, _, hs⟩ := DataW.trod_string Tryz.underlying9 g2
      simp only [List.cons.injEq, and_true] at e0 e1 e2
      subst e0 e1 e2
      have hk' : 0 ≤ k ∧ k ≤ 255 := by
        unfold Lit.wf at hk
        simpa [Bool.and_eq_true, decide_eq_true_eq, IntKind.min, IntKind.max, IntKind.signed, IntKind.bits] using hk
      rcases DataW.trod_slice Tryz.underlying22 g3 with ⟨e3, _⟩ | ⟨a, len, cap, elems, rest, n', rfl, e3, _, hb, hlc, hcm, hel, hat, _, _⟩
      · simp only [List.cons.injEq, and_true] at e3
        subst e3
        refine ⟨_, _, _, _, .mk k v s [], rfl, ?_⟩
        unfold IsTm
        exact ⟨rfl, hk', rfl, hv, rfl, hs, none, 0, rfl, by simp, fun h => absurd rfl h⟩
      · simp only [List.cons.injEq, and_true] at e3
        subst e3
        have each : ∀ i, i < len → a.spot = none ∧ a.block < w.heap.size ∧ ∃ c0 c1 c2 c3 t, w.cell? ⟨a.block, a.off + i * 4, none⟩ = some c0 ∧ w.cell? ⟨a.block, a.off + i * 4 + 1, none⟩ = some c1 ∧ w.cell? ⟨a.block, a.off + i * 4 + 2, none⟩ = some c2 ∧
            w.cell? ⟨a.block, a.off + i * 4 + 3, none⟩ = some c3 ∧ IsTm w.heap.size w c0 c1 c2 c3 t := by
          intro i hi
          have h1 := hat i hi
          have h0 := hat 0 (by omega)
          rw [show Tryz.prog.cellsOf 46 = 4 by kernel_rfl] at h1 h0
          rw [List.getElem?_eq_getElem (by omega)] at h1 h0
          obtain ⟨cs0, hc0, _⟩ := Option.bind_eq_some_iff.1 h0
          obtain ⟨cs1, hc1, ht1⟩ := Option.bind_eq_some_iff.1 h1
          obtain ⟨c0, c1, c2, c3, t, rfl, hi1⟩ := ih n' (by omega) _ _ ht1
          obtain ⟨_, hl0, hcell0⟩ := World.cells?_some hc0
          obtain ⟨_, hl1, hcell1⟩ := World.cells?_some hc1
          have hsp : a.spot = none := by
            have := hcell0 0 (by omega)
            rw [List.getElem?_eq_getElem (by omega)] at this
            have := cell_spot this
            simpa [Addr.add] using this
          have hblk : a.block < w.heap.size := by
            have := World.cells?_block hc0 (by omega)
            rwa [addr_add _ _ hsp] at this
          rw [addr_add _ _ hsp] at hcell1
          refine ⟨hsp, hblk, c0, c1, c2, c3, t, ?_, ?_, ?_, ?_, hi1⟩
          · simpa [Addr.add] using hcell1 0 (by omega)
          · simpa [Addr.add] using hcell1 1 (by omega)
          · simpa [Addr.add] using hcell1 2 (by omega)
          · simpa [Addr.add] using hcell1 3 (by omega)
        obtain ⟨ts, htl, hts⟩ := tms_of (fun i hi => (each i hi).2.2) len (Nat.le_refl _)
        subst htl
        refine ⟨_, _, _, _, .mk k v s ts, rfl, ?_⟩
        unfold IsTm
        refine ⟨rfl, hk', rfl, hv, rfl, hs, some a, cap, rfl, by omega, fun hne => ?_⟩
        have hpos : 0 < ts.length := by cases ts with
          | nil => exact absurd rfl hne
          | cons _ _ => simp
        obtain ⟨hsp, hblk, _⟩ := each 0 hpos
        obtain ⟨b, o, sp'⟩ := a
        simp only at hsp
        subst hsp
        refine ⟨b, o, rfl, hblk, ?_⟩
        simpa using hts

set_option maxRecDepth 100000 in
/-- An argument of type api.Term is four cells that hold a term. -/
theorem open_term {H : Type} {enc : TypeId × Value → H} {w : World} {r : Reach} {b : Nat} {sp : Nat → Bool} {held : Bool} {v : Value} {d : DataW H} {ps : List MemPlace} (hv : Value.okWide Tryz.prog w r b 46 v)
    (h : DataW.Trod enc Tryz.prog w 0 sp held 46 v d ps) : ∃ c0 c1 c2 c3 t, v = .agg #[c0, c1, c2, c3] ∧ IsTm w.heap.size w c0 c1 c2 c3 t := by
  obtain ⟨cs, rfl, _⟩ := Go.WideShapes.okWide_struct Tryz.underlying46 hv
  obtain ⟨n, hn⟩ := h
  obtain ⟨c0, c1, c2, c3, t, hcs, ht⟩ := isTm_of_trod n _ _ hn
  refine ⟨c0, c1, c2, c3, t, ?_, ht⟩
  have e : cs.toList = [c0, c1, c2, c3] := hcs
  rw [show cs = #[c0, c1, c2, c3] from Array.toList_inj.1 e]
set_option maxRecDepth 100000 in
/-- It reads behind a call that only adds to memory as it did. -/
theorem shut_term {H : Type} {enc : TypeId × Value → H} {W W' : World} {sp : Nat → Bool} {v : Value} {d : DataW H} {ps : List MemPlace} (h : DataW.Trod enc Tryz.prog W 0 (fun _ => true) true 46 v d ps) (hb : Below W.heap.size W W')
    (hs : ∀ p ∈ ps, sp p.block = true) : DataW.Trod enc Tryz.prog W' 0 sp true 46 v d ps := by
  have hlt : ∀ p ∈ ps, p.block < W.heap.size := by
    obtain ⟨n, hn⟩ := h
    exact DataW.trod_lt n _ _ _ hn
  exact WideElems.Trod_stays (by kernel_rfl) (by kernel_rfl) (of_decide_eq_true (by kernel_rfl)) h (fun p hp => hb.same (hlt p hp)) hs
end Go.Proofs.YtcoieohbmkjpoaaGreatDoor
namespace Go.Proofs.YtcoieohbmkjpoaaGreatDoor
open Go.RowKit Go.ChangeShapes

set_option maxRecDepth 100000 in
theorem open_terms_of {H : Type} {enc : TypeId × Value → H} {w : World} {sp : Nat → Bool} {held : Bool} {v : Value} {d : DataW H} {ps : List MemPlace} (hv : ∃ a l c, v = Value.slice a l c)
    (h : DataW.Trod enc Tryz.prog w 0 sp held 22 v d ps) : ∃ (a : Option Addr) (us : List Tm) (cap : Nat), v = .slice a us.length cap ∧ us.length ≤ cap ∧ us.length ≤ maxLen ∧
      (us ≠ [] → ∃ b off, a = some ⟨b, off, none⟩ ∧ b < w.heap.size ∧ IsTms w.heap.size w b off us) := by
  obtain ⟨a0, len0, cap0, rfl⟩ := hv
  obtain ⟨n, hn⟩ := h
  rcases DataW.trod_slice Tryz.underlying22 hn with ⟨e3, _⟩ | ⟨a, len, cap, elems, rest, n', rfl, e3, _, hb, hlc, hcm, hel, hat, _, _⟩
  · have e : Value.slice a0 len0 cap0 = .slice none 0 0 := by simpa [Value.cells] using e3
    exact ⟨none, [], 0, e, Nat.le_refl _, by unfold maxLen; simp, fun h => absurd rfl h⟩
  · have e : Value.slice a0 len0 cap0 = .slice (some a) len cap := by simpa [Value.cells] using e3
    rw [e]
    have each : ∀ i, i < len → a.spot = none ∧ a.block < w.heap.size ∧ ∃ c0 c1 c2 c3 t, w.cell? ⟨a.block, a.off + i * 4, none⟩ = some c0 ∧ w.cell? ⟨a.block, a.off + i * 4 + 1, none⟩ = some c1 ∧ w.cell? ⟨a.block, a.off + i * 4 + 2, none⟩ = some c2 ∧
        w.cell? ⟨a.block, a.off + i * 4 + 3, none⟩ = some c3 ∧ IsTm w.heap.size w c0 c1 c2 c3 t := by
      intro i hi
      have h1 := hat i hi
      have h0 := hat 0 (by omega)
      rw [show Tryz.prog.cellsOf 46 = 4 by kernel_rfl] at h1 h0
      rw [List.getElem?_eq_getElem (by omega)] at h1 h0
      obtain ⟨cs0, hc0, _⟩ := Option.bind_eq_some_iff.1 h0
      obtain ⟨cs1, hc1, ht1⟩ := Option.bind_eq_some_iff.1 h1
      obtain ⟨c0, c1, c2, c3, t, rfl, hi1⟩ := isTm_of_trod n' _ _ ht1
      obtain ⟨_, hl0, hcell0⟩ := World.cells?_some hc0
      obtain ⟨_, hl1, hcell1⟩ := World.cells?_some hc1
      have hsp : a.spot = none := by
        have := hcell0 0 (by omega)
        rw [List.getElem?_eq_getElem (by omega)] at this
        have := cell_spot this
        simpa [Addr.add] using this
      have hblk : a.block < w.heap.size := by
        have := World.cells?_block hc0 (by omega)
        rwa [addr_add _ _ hsp] at this
      rw [addr_add _ _ hsp] at hcell1
      refine ⟨hsp, hblk, c0, c1, c2, c3, t, ?_, ?_, ?_, ?_, hi1⟩
      · simpa [Addr.add] using hcell1 0 (by omega)
      · simpa [Addr.add] using hcell1 1 (by omega)
      · simpa [Addr.add] using hcell1 2 (by omega)
      · simpa [Addr.add] using hcell1 3 (by omega)
    obtain ⟨ts, htl, hts⟩ := tms_of (fun i hi => (each i hi).2.2) len (Nat.le_refl _)
    subst htl
    refine ⟨some a, ts, cap, rfl, by omega, by omega, fun hne => ?_⟩
    have hpos : 0 < ts.length := by cases ts with
      | nil => exact absurd rfl hne
      | cons _ _ => simp
    obtain ⟨hsp, hblk, _⟩ := each 0 hpos
    obtain ⟨b, o, sp'⟩ := a
    simp only at hsp
    subst hsp
    refine ⟨b, o, rfl, hblk, ?_⟩
    simpa using hts
set_option maxRecDepth 100000 in
theorem open_terms {H : Type} {enc : TypeId × Value → H} {w : World} {r : Reach} {b : Nat} {sp : Nat → Bool} {held : Bool} {v : Value} {d : DataW H} {ps : List MemPlace} (hv : Value.okWide Tryz.prog w r b 22 v)
    (h : DataW.Trod enc Tryz.prog w 0 sp held 22 v d ps) : ∃ (a : Option Addr) (us : List Tm) (cap : Nat), v = .slice a us.length cap ∧ us.length ≤ cap ∧ us.length ≤ maxLen ∧
      (us ≠ [] → ∃ b off, a = some ⟨b, off, none⟩ ∧ b < w.heap.size ∧ IsTms w.heap.size w b off us) :=
  open_terms_of (Go.WideShapes.okWide_slice Tryz.underlying22 hv) h
set_option maxRecDepth 100000 in
theorem shut_terms {H : Type} {enc : TypeId × Value → H} {W W' : World} {sp : Nat → Bool} {v : Value} {d : DataW H} {ps : List MemPlace} (h : DataW.Trod enc Tryz.prog W 0 (fun _ => true) true 22 v d ps) (hb : Below W.heap.size W W')
    (hs : ∀ p ∈ ps, sp p.block = true) : DataW.Trod enc Tryz.prog W' 0 sp true 22 v d ps := by
  have hlt : ∀ p ∈ ps, p.block < W.heap.size := by
    obtain ⟨n, hn⟩ := h
    exact DataW.trod_lt n _ _ _ hn
  exact WideElems.Trod_stays (by kernel_rfl) (by kernel_rfl) (of_decide_eq_true (by kernel_rfl)) h (fun p hp => hb.same (hlt p hp)) hs
end Go.Proofs.YtcoieohbmkjpoaaGreatDoor
namespace Go.Proofs.YtcoieohbmkjpoaaGreatDoor
open Go.RowKit Go.ChangeShapes

set_option maxRecDepth 100000 in
theorem open_atom {H : Type} {enc : TypeId × Value → H} {w : World} {r : Reach} {b : Nat} {sp : Nat → Bool} {held : Bool} {v : Value} {d : DataW H} {ps : List MemPlace}  (hv : Value.okWide Tryz.prog w r b 24 v)
    (h : DataW.Trod enc Tryz.prog w 0 sp held 24 v d ps) : ∃ (s : ByteArray) (a : Option Addr) (us : List Tm) (cap : Nat), v = .agg #[.string s, .slice a us.length cap] ∧ s.size ≤ maxLen ∧ us.length ≤ cap ∧ us.length ≤ maxLen ∧
      (us ≠ [] → ∃ b off, a = some ⟨b, off, none⟩ ∧ b < w.heap.size ∧ IsTms w.heap.size w b off us) := by
  obtain ⟨cs, rfl, hc⟩ := Go.WideShapes.okWide_struct Tryz.underlying24 hv
  obtain ⟨n, hn⟩ := h
  obtain ⟨xs, m, _, _, hl, hlen, hf⟩ := DataW.trod_struct Tryz.underlying24 hn
  rw [show Tryz.prog.cellsOf 24 = 2 by kernel_rfl] at hl
  obtain ⟨cs⟩ := cs
  match cs, hl, xs, hlen with
  | [c0, c1], _, [y0, y1], _ =>
    have g0 : DataW.trod enc Tryz.prog w 0 sp held m 9 (List.take (Tryz.prog.cellsOf 9) (List.drop 0 [c0, c1])) = some y0 := hf 0 _ rfl
    have g1 : DataW.trod enc Tryz.prog w 0 sp held m 22 (List.take (Tryz.prog.cellsOf 22) (List.drop 1 [c0, c1])) = some y1 := hf 1 _ rfl
    simp only [show Tryz.prog.cellsOf 9 = 1 by kernel_rfl, show Tryz.prog.cellsOf 22 = 1 by kernel_rfl, List.drop, List.take] at g0 g1
    obtain ⟨s, e2, _, hs⟩ := DataW.trod_string Tryz.underlying9 g0
    simp only [List.cons.injEq, and_true] at e2
    subst e2
    have hsl : ∃ a l c, c1 = Value.slice a l c := by
      rcases DataW.trod_slice Tryz.underlying22 g1 with ⟨e3, _⟩ | ⟨a, len, cap, elems, rest, n', _, e3, _⟩
      · exact ⟨_, _, _, List.cons.inj e3 |>.1⟩
      · exact ⟨_, _, _, List.cons.inj e3 |>.1⟩
    have hsl2 := hsl
    obtain ⟨a1, l1, k1, rfl⟩ := hsl2
    obtain ⟨a, us, cap, e, h1, h2, h3⟩ := open_terms_of (enc := enc) (sp := sp) (held := held) hsl ⟨m, g1⟩
    rw [e]
    exact ⟨s, a, us, cap, rfl, hs, h1, h2, h3⟩
set_option maxRecDepth 100000 in
theorem shut_atom {H : Type} {enc : TypeId × Value → H} {W W' : World} {sp : Nat → Bool} {v : Value} {d : DataW H} {ps : List MemPlace} (h : DataW.Trod enc Tryz.prog W 0 (fun _ => true) true 24 v d ps) (hb : Below W.heap.size W W')
    (hs : ∀ p ∈ ps, sp p.block = true) : DataW.Trod enc Tryz.prog W' 0 sp true 24 v d ps := by
  have hlt : ∀ p ∈ ps, p.block < W.heap.size := by
    obtain ⟨n, hn⟩ := h
    exact DataW.trod_lt n _ _ _ hn
  exact WideElems.Trod_stays (by kernel_rfl) (by kernel_rfl) (of_decide_eq_true (by kernel_rfl)) h (fun p hp => hb.same (hlt p hp)) hs
end Go.Proofs.YtcoieohbmkjpoaaGreatDoor
