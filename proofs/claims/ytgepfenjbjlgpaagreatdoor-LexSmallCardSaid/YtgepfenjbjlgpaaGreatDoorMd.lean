/- The laws of lex: tokens in the reference model's form, its Join. -/
import Derived.Test.YtgepfenjbjlgpaaGreatDoorMc
import Derived.Test.YtgepfenjbjlgpaaGreatDoorLz
import Derived.Test.YtgepfenjbjlgpaaGreatDoorRt
namespace Go.Proofs.YtgepfenjbjlgpaaGreatDoor
open Go.RowKit

theorem bytes_eq {a b : ByteArray} (h : a.data.toList = b.data.toList) : a = b := by
  cases a; cases b; congr; exact Array.toList_inj.1 h
theorem joinL_one (x : Tk) : joinL [x] = x.t.data.toList := Lib.join_one _ _
theorem joinL_snoc (l : List Tk) (x : Tk) (h : l ≠ []) : joinL (l ++ [x]) = joinL l ++ 32 :: x.t.data.toList := by
  obtain ⟨y, r, rfl⟩ := List.exists_cons_of_ne_nil h
  unfold joinL
  rw [List.map_append, List.map_cons, List.cons_append, Lib.join_cons, Lib.join_cons]
  simp [Lib.joinTail]
theorem joinL_app (b : List Tk) : ∀ a : List Tk, (joinL a).length ≤ (joinL (a ++ b)).length := by
  induction b with
  | nil => intro a; simp
  | cons x r ih =>
    intro a
    have h1 := ih (a ++ [x])
    rw [List.append_assoc, List.singleton_append] at h1
    refine Nat.le_trans ?_ h1
    cases a with
    | nil => exact Nat.zero_le _
    | cons y z => rw [joinL_snoc _ _ (by simp)]; simp
theorem joinL_take (l : List Tk) (j : Nat) : (joinL (l.take j)).length ≤ (joinL l).length := by
  have h := joinL_app (l.drop j) (l.take j)
  rwa [List.take_append_drop] at h
theorem joinL_text (l : List Tk) {j : Nat} {x : Tk} (h : l[j]? = some x) : x.t.size ≤ (joinL l).length := by
  refine Nat.le_trans ?_ (joinL_take l (j + 1))
  rw [take_snocT h]
  show x.t.data.toList.length ≤ _
  cases hj : l.take j with
  | nil => rw [List.nil_append, joinL_one]; exact Nat.le_refl _
  | cons y z => rw [joinL_snoc _ _ (by simp), List.length_append, List.length_cons]; omega
theorem joinB_size (l : List Tk) : (joinB l).size = (joinL l).length := by
  show (joinL l).toArray.size = _
  simp
theorem joinB_first {l : List Tk} {x : Tk} (h : l[0]? = some x) : joinB (l.take 1) = (⟨#[]⟩ : ByteArray) ++ x.t := by
  refine bytes_eq ?_
  have e : l.take 1 = [x] := by rw [take_snocT h]; rfl
  rw [e, ByteArray.data_append]
  show (joinL [x]).toArray.toList = _
  rw [joinL_one]
  simp
theorem joinB_next {l : List Tk} {x : Tk} {j : Nat} (h : l[j]? = some x) (hj : 0 < j) : joinB (l.take (j + 1)) = (joinB (l.take j) ++ (⟨#[32]⟩ : ByteArray)) ++ x.t := by
  refine bytes_eq ?_
  have hl : j < l.length := (List.getElem?_eq_some_iff.1 h).1
  have hne : l.take j ≠ [] := by
    intro e
    rcases List.take_eq_nil_iff.1 e with h1 | h1
    · omega
    · rw [h1] at hl; simp at hl
  rw [take_snocT h, ByteArray.data_append, ByteArray.data_append]
  show (joinL (l.take j ++ [x])).toArray.toList = (((joinL (l.take j)).toArray ++ #[32]) ++ x.t.data).toList
  rw [joinL_snoc _ _ hne]
  simp

/-- A slice of the reference model's tokens, held in a world below B. -/
def IsToksR (B : Nat) (w : World) (v : Value) (l : List Tk) : Prop := ∃ p cap, v = .slice p l.length cap ∧ (l ≠ [] → ∃ b off, p = some ⟨b, off, none⟩ ∧ b < B ∧
  ∀ (i : Nat) (x : Tk), l[i]? = some x → w.cell? ⟨b, off + i * 3, none⟩ = some (.int .i64 x.k) ∧ w.cell? ⟨b, off + i * 3 + 1, none⟩ = some (.string x.t) ∧ w.cell? ⟨b, off + i * 3 + 2, none⟩ = some (.int .i64 x.a))
theorem IsToksR.below {B : Nat} {w w' : World} {v : Value} {l : List Tk} (h : IsToksR B w v l) (hb : Below B w w') : IsToksR B w' v l := by
  obtain ⟨p, cap, hv, hr⟩ := h
  refine ⟨p, cap, hv, fun hne => ?_⟩
  obtain ⟨b, off, hp, hbB, hc⟩ := hr hne
  refine ⟨b, off, hp, hbB, fun i x hx => ?_⟩
  obtain ⟨h0, h1, h2⟩ := hc i x hx
  exact ⟨(hb.cell (p := ⟨b, off + i * 3, none⟩) hbB).trans h0, (hb.cell (p := ⟨b, off + i * 3 + 1, none⟩) hbB).trans h1, (hb.cell (p := ⟨b, off + i * 3 + 2, none⟩) hbB).trans h2⟩
theorem IsToksR.mono {B B' : Nat} {w : World} {v : Value} {l : List Tk} (h : IsToksR B w v l) (hb : B ≤ B') : IsToksR B' w v l := by
  obtain ⟨p, cap, hv, hr⟩ := h
  refine ⟨p, cap, hv, fun hne => ?_⟩
  obtain ⟨b, off, hp, hbB, hc⟩ := hr hne
  exact ⟨b, off, hp, by omega, hc⟩
theorem isToksR_of_row {W : World} {b : Nat} {v : Value} {l : List Tk} (h : W.ownsRow b 75 3 v l.length (cellsR l)) : IsToksR W.heap.size W v l := by
  rcases h.2 with ⟨rfl, h0⟩ | ⟨g, cap, cur, rfl, hg0, hgb, hle, hcl, hcz, htk⟩
  · have : l = [] := List.eq_nil_of_length_eq_zero h0
    subst this
    exact ⟨none, 0, rfl, fun h => absurd rfl h⟩
  · refine ⟨_, cap, rfl, fun _ => ⟨g, 0, rfl, (Array.getElem?_eq_some_iff.1 hgb).1, fun i x hx => ?_⟩⟩
    obtain ⟨k0, k1, k2⟩ := cellsR_at l i x hx
    have hc : ∀ (j : Nat) (u : Value), (cellsR l)[j]? = some u → W.cell? ⟨g, 0 + j, none⟩ = some u := by
      intro j u hu
      rw [Nat.zero_add]
      rw [← htk, List.getElem?_take] at hu
      split at hu
      · exact cells_at hgb j _ (by rw [← Array.getElem?_toList]; exact hu)
      · cases hu
    exact ⟨hc _ _ k0, hc _ _ k1, hc _ _ k2⟩

set_option maxRecDepth 100000 in
set_option maxHeartbeats 4000000 in
theorem rjoin_any (toks : List Tk) (v : Value) (w : World) (hV : IsToksR w.heap.size w v toks) (hlen : toks.length ≤ 4294967296) (hj : (joinL toks).length ≤ 140737488355328) :
    Calls Tryz.prog 17 #[v] w fun e w' => e = .returned (.string (joinB toks)) ∧ w = w' := by
  obtain ⟨p, cap, rfl, hcells⟩ := hV
  have HC := Lib.hid hcells
  clear hcells
  go_enter Tryz.func17, Tryz.ntmps17
  go_wp2
  go_loop [3, 4] (fun o i => ∃ j : Nat, j ≤ toks.length ∧ i = .int .i64 j ∧ o = .string (joinB (toks.take j))) (fun _ i => toks.length - (intOf i).toNat)
  case atStart => exact ⟨0, Nat.zero_le _, rfl, by rw [List.take_zero]; rfl⟩
  case round =>
    obtain ⟨j, hjl, rfl, rfl⟩ := hrel
    by_cases hlt : j < toks.length
    · obtain ⟨b, off, rfl, hb, hc⟩ := HC.out (by intro e; rw [e] at hlt; simp at hlt)
      obtain ⟨x, hx⟩ : ∃ x, toks[j]? = some x := ⟨toks[j], List.getElem?_eq_getElem hlt⟩
      have k1 := (hc j x hx).2.1
      have s1 : (joinB (toks.take j)).size ≤ 140737488355328 := by rw [joinB_size]; exact Nat.le_trans (joinL_take _ _) hj
      have s2 : x.t.size ≤ 140737488355328 := Nat.le_trans (joinL_text _ hx) hj
      by_cases h0 : j = 0
      · subst h0
        have HF := Lib.hid (joinB_first hx)
        have e0 : (joinB (toks.take 0)) = (⟨#[]⟩ : ByteArray) := by rw [List.take_zero]; rfl
        rw [e0] at s1 ⊢
        clear hc hx e0
        go_wp2
        go_round
        case rel => exact ⟨1, by omega, by go_num, by rw [HF.out]⟩
        case measure => simp [intOf]; omega
      · have HF := Lib.hid (joinB_next hx (by omega))
        have s3 : (joinB (toks.take j) ++ (⟨#[32]⟩ : ByteArray)).size ≤ 140737488355329 := by rw [ByteArray.size_append]; show _ + 1 ≤ _; omega
        have e0 : decide ((0 : Int) < (j : Int)) = true := by simp; omega
        clear hc hx
        go_wp2
        go_round
        case rel => exact ⟨j + 1, by omega, by go_num, by rw [HF.out]⟩
        case measure => simp [intOf]; omega
    · have e : toks.take j = toks := List.take_of_length_le (by omega)
      rw [e]
      clear e
      go_wp2
      go_ret
      exact ⟨rfl, rfl⟩

/-- What the tokens of a world look like, with kinds in range. -/
def KOk (l : List Tk) : Prop := ∀ x ∈ l, 0 ≤ x.k ∧ x.k < 256

set_option maxRecDepth 100000 in
set_option maxHeartbeats 8000000 in
theorem theirs_any (toks : List Tk) (v : Value) (w : World) (hV : IsToks w.heap.size w v toks) (hlen : toks.length ≤ 1048576) (hk : KOk toks) :
    Calls Tryz.prog 35 #[v] w fun e w' => ∃ v', e = .returned v' ∧ w'.ownsRow w.heap.size 75 3 v' toks.length (cellsR toks) ∧ Below w.heap.size w w' := by
  obtain ⟨p, cap, rfl, hcells⟩ := hV
  have HC := Lib.hid hcells
  have HKO := Lib.hid hk
  clear hcells hk
  go_enter Tryz.func35, Tryz.ntmps35
  go_wp2
  go_loopw [3, 4] (fun o i wr => ∃ (j : Nat) (out : Value), j ≤ toks.length ∧ i = .int .i64 j ∧ out = o ∧ wr.ownsRow w.heap.size 75 3 out j (cellsR (toks.take j)) ∧ Below w.heap.size w wr) (fun _ i _ => toks.length - (intOf i).toNat)
  case atStart => exact ⟨0, _, Nat.zero_le _, rfl, rfl, ⟨rfl, .inl ⟨rfl, rfl⟩⟩, Below.refl _ _⟩
  case round =>
    obtain ⟨j, out, hjl, rfl, rfl, hrow, hB⟩ := hrel
    have HRW := Lib.hid hrow
    have HBW := Lib.hid hB
    by_cases hlt : j < toks.length
    · obtain ⟨b, off, rfl, hbw, hc⟩ := HC.out (by intro e; rw [e] at hlt; simp at hlt)
      obtain ⟨⟨k, t, q, er⟩, hx⟩ : ∃ x, toks[j]? = some x := ⟨toks[j], List.getElem?_eq_getElem hlt⟩
      have hkk := HKO.out _ (List.mem_of_getElem? hx)
      have kb0 : (0 : Int) ≤ k := hkk.1
      have kb1 : k < 256 := hkk.2
      have hwr : IntKind.i64.wrap k = k := IntWalk.i64_in k ⟨by omega, by omega⟩
      obtain ⟨c0, c1, c2⟩ := hc j _ hx
      have g0 : wr.cell? ⟨b, off + j * 3, none⟩ = some (.int .u8 k) := (hB.cell (p := ⟨b, off + j * 3, none⟩) hbw).trans c0
      have g1 : wr.cell? ⟨b, off + j * 3 + 1, none⟩ = some (.string t) := (hB.cell (p := ⟨b, off + j * 3 + 1, none⟩) hbw).trans c1
      have g2 : wr.cell? ⟨b, off + j * 3 + 2, none⟩ = some (.int .i64 q) := (hB.cell (p := ⟨b, off + j * 3 + 2, none⟩) hbw).trans c2
      have hlb : b < wr.heap.size := Nat.lt_of_lt_of_le hbw hB.size
      have HX := Lib.hid hx
      have hsz0 := hB.size
      clear hc c0 c1 c2 hkk hx hrow hB
      have i1 : (0 : Int) ≤ (j : Int) := by omega
      have i2 : (j : Int) < (toks.length : Int) := by omega
      go_wp2_with fail
      refine wp_region_grow_tail (by kernel_rfl) 19 (FQ [ .val (out), .val (.slice (some ⟨b, off, none⟩) toks.length cap), .val (.int .i64 j), .val (.pointer (some ⟨b, off + j * 3, none⟩)), .val (.pointer (some ⟨b, off + j * 3, none⟩)), .val (.int .u8 k), .val (.int .i64 k), .val (.slice (some ⟨b, off, none⟩) toks.length cap), .val (.int .i64 j), .val (.pointer (some ⟨b, off + j * 3, none⟩)), .val (.pointer (some ⟨b, off + j * 3 + 1, none⟩)), .val (.string t), .val (.slice (some ⟨b, off, none⟩) toks.length cap), .val (.int .i64 j), .val (.pointer (some ⟨b, off + j * 3, none⟩)), .val (.pointer (some ⟨b, off + j * 3 + 2, none⟩)), .val (.int .i64 q), .val (.agg #[.int .i64 k, .string t, .int .i64 q]), .row (75) (#[.int .i64 k, .string t, .int .i64 q]) 1]) (FQ_grow _) (by kernel_rfl) (by kernel_rfl) (steps_to ?_) ?_
      · simp only [List.take_succ_cons, List.take_zero]
        refine ⟨?_, ?_, ?_, ?_, ?_, ?_, ?_, ?_, ?_, ?_, ?_, ?_, ?_, ?_, ?_, ?_, ?_, ?_, ?_, trivial⟩
        · intro a wx hb hd hs ho hp
          refine ⟨rfl, ?_⟩
          have h3 : a.tmps.getD 3 undef = _ := (ho 3 (by kernel_rfl)).trans rfl
          unfold Oper.wp
          go_simp
          exact Stepped.at rfl hd (Below.refl _ _) (FQ_mk (.val (out)) rfl (by first | rfl | simp))
        · intro a wx hb hd hs ho hp
          refine ⟨rfl, ?_⟩
          have h0 : a.tmps.getD 0 undef = _ := (ho 0 (by kernel_rfl)).trans rfl
          unfold Oper.wp
          go_simp
          exact Stepped.at rfl hd (Below.refl _ _) (FQ_mk (.val (.slice (some ⟨b, off, none⟩) toks.length cap)) rfl (by first | rfl | simp))
        · intro a wx hb hd hs ho hp
          refine ⟨rfl, ?_⟩
          have h4 : a.tmps.getD 4 undef = _ := (ho 4 (by kernel_rfl)).trans rfl
          unfold Oper.wp
          go_simp
          exact Stepped.at rfl hd (Below.refl _ _) (FQ_mk (.val (.int .i64 j)) rfl (by first | rfl | simp))
        · intro a wx hb hd hs ho hp
          refine ⟨rfl, ?_⟩
          have h12 : a.tmps.getD 12 undef = .slice (some ⟨b, off, none⟩) toks.length cap := qval_at hp 1 12 (by kernel_rfl) rfl
          have h13 : a.tmps.getD 13 undef = .int .i64 j := qval_at hp 2 13 (by kernel_rfl) rfl
          unfold Oper.wp
          go_simp
          exact Stepped.at rfl hd (Below.refl _ _) (FQ_mk (.val (.pointer (some ⟨b, off + j * 3, none⟩))) rfl (by first | rfl | simp))
        · intro a wx hb hd hs ho hp
          refine ⟨rfl, ?_⟩
          have h14 : a.tmps.getD 14 undef = .pointer (some ⟨b, off + j * 3, none⟩) := qval_at hp 3 14 (by kernel_rfl) rfl
          unfold Oper.wp
          go_simp
          exact Stepped.at rfl hd (Below.refl _ _) (FQ_mk (.val (.pointer (some ⟨b, off + j * 3, none⟩))) rfl (by first | rfl | simp))
        · intro a wx hb hd hs ho hp
          refine ⟨rfl, ?_⟩
          have h15 : a.tmps.getD 15 undef = .pointer (some ⟨b, off + j * 3, none⟩) := qval_at hp 4 15 (by kernel_rfl) rfl
          have x0 := (hb.cell (p := ⟨b, off + j * 3, none⟩) hlb).trans g0
          unfold Oper.wp
          go_simp
          exact Stepped.at rfl hd (Below.refl _ _) (FQ_mk (.val (.int .u8 k)) rfl rfl)
        · intro a wx hb hd hs ho hp
          refine ⟨rfl, ?_⟩
          have h16 : a.tmps.getD 16 undef = .int .u8 k := qval_at hp 5 16 (by kernel_rfl) rfl
          unfold Oper.wp
          go_simp
          exact Stepped.at rfl hd (Below.refl _ _) (FQ_mk (.val (.int .i64 k)) rfl (by first | rfl | simp))
        · intro a wx hb hd hs ho hp
          refine ⟨rfl, ?_⟩
          have h0 : a.tmps.getD 0 undef = _ := (ho 0 (by kernel_rfl)).trans rfl
          unfold Oper.wp
          go_simp
          exact Stepped.at rfl hd (Below.refl _ _) (FQ_mk (.val (.slice (some ⟨b, off, none⟩) toks.length cap)) rfl (by first | rfl | simp))
        · intro a wx hb hd hs ho hp
          refine ⟨rfl, ?_⟩
          have h4 : a.tmps.getD 4 undef = _ := (ho 4 (by kernel_rfl)).trans rfl
          unfold Oper.wp
          go_simp
          exact Stepped.at rfl hd (Below.refl _ _) (FQ_mk (.val (.int .i64 j)) rfl (by first | rfl | simp))
        · intro a wx hb hd hs ho hp
          refine ⟨rfl, ?_⟩
          have h18 : a.tmps.getD 18 undef = .slice (some ⟨b, off, none⟩) toks.length cap := qval_at hp 7 18 (by kernel_rfl) rfl
          have h19 : a.tmps.getD 19 undef = .int .i64 j := qval_at hp 8 19 (by kernel_rfl) rfl
          unfold Oper.wp
          go_simp
          exact Stepped.at rfl hd (Below.refl _ _) (FQ_mk (.val (.pointer (some ⟨b, off + j * 3, none⟩))) rfl (by first | rfl | simp))
        · intro a wx hb hd hs ho hp
          refine ⟨rfl, ?_⟩
          have h20 : a.tmps.getD 20 undef = .pointer (some ⟨b, off + j * 3, none⟩) := qval_at hp 9 20 (by kernel_rfl) rfl
          unfold Oper.wp
          go_simp
          exact Stepped.at rfl hd (Below.refl _ _) (FQ_mk (.val (.pointer (some ⟨b, off + j * 3 + 1, none⟩))) rfl (by first | rfl | simp))
        · intro a wx hb hd hs ho hp
          refine ⟨rfl, ?_⟩
          have h21 : a.tmps.getD 21 undef = .pointer (some ⟨b, off + j * 3 + 1, none⟩) := qval_at hp 10 21 (by kernel_rfl) rfl
          have x0 := (hb.cell (p := ⟨b, off + j * 3 + 1, none⟩) hlb).trans g1
          unfold Oper.wp
          go_simp
          exact Stepped.at rfl hd (Below.refl _ _) (FQ_mk (.val (.string t)) rfl rfl)
        · intro a wx hb hd hs ho hp
          refine ⟨rfl, ?_⟩
          have h0 : a.tmps.getD 0 undef = _ := (ho 0 (by kernel_rfl)).trans rfl
          unfold Oper.wp
          go_simp
          exact Stepped.at rfl hd (Below.refl _ _) (FQ_mk (.val (.slice (some ⟨b, off, none⟩) toks.length cap)) rfl (by first | rfl | simp))
        · intro a wx hb hd hs ho hp
          refine ⟨rfl, ?_⟩
          have h4 : a.tmps.getD 4 undef = _ := (ho 4 (by kernel_rfl)).trans rfl
          unfold Oper.wp
          go_simp
          exact Stepped.at rfl hd (Below.refl _ _) (FQ_mk (.val (.int .i64 j)) rfl (by first | rfl | simp))
        · intro a wx hb hd hs ho hp
          refine ⟨rfl, ?_⟩
          have h23 : a.tmps.getD 23 undef = .slice (some ⟨b, off, none⟩) toks.length cap := qval_at hp 12 23 (by kernel_rfl) rfl
          have h24 : a.tmps.getD 24 undef = .int .i64 j := qval_at hp 13 24 (by kernel_rfl) rfl
          unfold Oper.wp
          go_simp
          exact Stepped.at rfl hd (Below.refl _ _) (FQ_mk (.val (.pointer (some ⟨b, off + j * 3, none⟩))) rfl (by first | rfl | simp))
        · intro a wx hb hd hs ho hp
          refine ⟨rfl, ?_⟩
          have h25 : a.tmps.getD 25 undef = .pointer (some ⟨b, off + j * 3, none⟩) := qval_at hp 14 25 (by kernel_rfl) rfl
          unfold Oper.wp
          go_simp
          exact Stepped.at rfl hd (Below.refl _ _) (FQ_mk (.val (.pointer (some ⟨b, off + j * 3 + 2, none⟩))) rfl (by first | rfl | simp))
        · intro a wx hb hd hs ho hp
          refine ⟨rfl, ?_⟩
          have h26 : a.tmps.getD 26 undef = .pointer (some ⟨b, off + j * 3 + 2, none⟩) := qval_at hp 15 26 (by kernel_rfl) rfl
          have x0 := (hb.cell (p := ⟨b, off + j * 3 + 2, none⟩) hlb).trans g2
          unfold Oper.wp
          go_simp
          exact Stepped.at rfl hd (Below.refl _ _) (FQ_mk (.val (.int .i64 q)) rfl rfl)
        · intro a wx hb hd hs ho hp
          refine ⟨rfl, ?_⟩
          have h17 : a.tmps.getD 17 undef = .int .i64 k := qval_at hp 6 17 (by kernel_rfl) rfl
          have h22 : a.tmps.getD 22 undef = .string t := qval_at hp 11 22 (by kernel_rfl) rfl
          have h27 : a.tmps.getD 27 undef = .int .i64 q := qval_at hp 16 27 (by kernel_rfl) rfl
          have s17 := qslot_of (hs.trans (show _ = 32 from rfl)) (by decide) h17
          have s22 := qslot_of (hs.trans (show _ = 32 from rfl)) (by decide) h22
          have s27 := qslot_of (hs.trans (show _ = 32 from rfl)) (by decide) h27
          unfold Oper.wp
          go_simp
          exact Stepped.at rfl hd (Below.refl _ _) (FQ_mk (.val (.agg #[.int .i64 k, .string t, .int .i64 q])) rfl (by first | rfl | simp))
        · intro a wx hb hd hs ho hp
          refine ⟨rfl, ?_⟩
          have h28 : a.tmps.getD 28 undef = .agg #[.int .i64 k, .string t, .int .i64 q] := qval_at hp 17 28 (by kernel_rfl) rfl
          have s28 := qslot_of (hs.trans (show _ = 32 from rfl)) (by decide) h28
          unfold Oper.wp
          go_simp
          exact Stepped.at rfl hd ((Below.refl _ _).alloc (Nat.le_refl _) _) (FQ_mk (.row (75) (#[.int .i64 k, .string t, .int .i64 q]) 1) rfl ⟨_, rfl, World.alloc_heap_new _ _⟩)
      intro a7 w7 hb7 hd7 hs7 ho7 hf7
      have k11 : a7.tmps.getD 11 undef = out := FQ_at (.val (out)) rfl (facts_to hf7 0 11 (by decide) (by kernel_rfl))
      have k12 : a7.tmps.getD 12 undef = .slice (some ⟨b, off, none⟩) toks.length cap := FQ_at (.val (.slice (some ⟨b, off, none⟩) toks.length cap)) rfl (facts_to hf7 1 12 (by decide) (by kernel_rfl))
      have k13 : a7.tmps.getD 13 undef = .int .i64 j := FQ_at (.val (.int .i64 j)) rfl (facts_to hf7 2 13 (by decide) (by kernel_rfl))
      have k14 : a7.tmps.getD 14 undef = .pointer (some ⟨b, off + j * 3, none⟩) := FQ_at (.val (.pointer (some ⟨b, off + j * 3, none⟩))) rfl (facts_to hf7 3 14 (by decide) (by kernel_rfl))
      have k15 : a7.tmps.getD 15 undef = .pointer (some ⟨b, off + j * 3, none⟩) := FQ_at (.val (.pointer (some ⟨b, off + j * 3, none⟩))) rfl (facts_to hf7 4 15 (by decide) (by kernel_rfl))
      have k16 : a7.tmps.getD 16 undef = .int .u8 k := FQ_at (.val (.int .u8 k)) rfl (facts_to hf7 5 16 (by decide) (by kernel_rfl))
      have k17 : a7.tmps.getD 17 undef = .int .i64 k := FQ_at (.val (.int .i64 k)) rfl (facts_to hf7 6 17 (by decide) (by kernel_rfl))
      have k18 : a7.tmps.getD 18 undef = .slice (some ⟨b, off, none⟩) toks.length cap := FQ_at (.val (.slice (some ⟨b, off, none⟩) toks.length cap)) rfl (facts_to hf7 7 18 (by decide) (by kernel_rfl))
      have k19 : a7.tmps.getD 19 undef = .int .i64 j := FQ_at (.val (.int .i64 j)) rfl (facts_to hf7 8 19 (by decide) (by kernel_rfl))
      have k20 : a7.tmps.getD 20 undef = .pointer (some ⟨b, off + j * 3, none⟩) := FQ_at (.val (.pointer (some ⟨b, off + j * 3, none⟩))) rfl (facts_to hf7 9 20 (by decide) (by kernel_rfl))
      have k21 : a7.tmps.getD 21 undef = .pointer (some ⟨b, off + j * 3 + 1, none⟩) := FQ_at (.val (.pointer (some ⟨b, off + j * 3 + 1, none⟩))) rfl (facts_to hf7 10 21 (by decide) (by kernel_rfl))
      have k22 : a7.tmps.getD 22 undef = .string t := FQ_at (.val (.string t)) rfl (facts_to hf7 11 22 (by decide) (by kernel_rfl))
      have k23 : a7.tmps.getD 23 undef = .slice (some ⟨b, off, none⟩) toks.length cap := FQ_at (.val (.slice (some ⟨b, off, none⟩) toks.length cap)) rfl (facts_to hf7 12 23 (by decide) (by kernel_rfl))
      have k24 : a7.tmps.getD 24 undef = .int .i64 j := FQ_at (.val (.int .i64 j)) rfl (facts_to hf7 13 24 (by decide) (by kernel_rfl))
      have k25 : a7.tmps.getD 25 undef = .pointer (some ⟨b, off + j * 3, none⟩) := FQ_at (.val (.pointer (some ⟨b, off + j * 3, none⟩))) rfl (facts_to hf7 14 25 (by decide) (by kernel_rfl))
      have k26 : a7.tmps.getD 26 undef = .pointer (some ⟨b, off + j * 3 + 2, none⟩) := FQ_at (.val (.pointer (some ⟨b, off + j * 3 + 2, none⟩))) rfl (facts_to hf7 15 26 (by decide) (by kernel_rfl))
      have k27 : a7.tmps.getD 27 undef = .int .i64 q := FQ_at (.val (.int .i64 q)) rfl (facts_to hf7 16 27 (by decide) (by kernel_rfl))
      have k28 : a7.tmps.getD 28 undef = .agg #[.int .i64 k, .string t, .int .i64 q] := FQ_at (.val (.agg #[.int .i64 k, .string t, .int .i64 q])) rfl (facts_to hf7 17 28 (by decide) (by kernel_rfl))
      obtain ⟨g7, k29, hg7⟩ : Dq.holds (a7.tmps.getD 29 undef) w7 (.row 75 #[.int .i64 k, .string t, .int .i64 q] 1) := FQ_at (.row 75 #[.int .i64 k, .string t, .int .i64 q] 1) rfl (facts_to hf7 18 29 (by decide) (by kernel_rfl))
      have hO7 := own_growR HRW.out hb7
      have hB7 := HBW.out.trans (hb7.mono HBW.out.size)
      have hE := slots_all a7.tmps 32 (hs7.trans rfl)
      simp only [List.range, List.range.loop, List.map, k11, k12, k13, k14, k15, k16, k17, k18, k19, k20, k21, k22, k23, k24, k25, k26, k27, k28, k29, ho7 0 (by kernel_rfl), ho7 1 (by kernel_rfl), ho7 2 (by kernel_rfl), ho7 3 (by kernel_rfl), ho7 4 (by kernel_rfl), ho7 5 (by kernel_rfl), ho7 6 (by kernel_rfl), ho7 7 (by kernel_rfl), ho7 8 (by kernel_rfl), ho7 9 (by kernel_rfl), ho7 10 (by kernel_rfl), ho7 30 (by kernel_rfl), ho7 31 (by kernel_rfl)] at hE
      obtain ⟨T7, D7⟩ := a7
      simp only at hE hd7
      subst hd7 hE
      clear k11 k12 k13 k14 k15 k16 k17 k18 k19 k20 k21 k22 k23 k24 k25 k26 k27 k28 k29 hf7 hs7 ho7 g0 g1 g2
      have hsz7 := hb7.size
      have HO7 := Lib.hid hO7
      have HB7 := Lib.hid hB7
      have HG7 := Lib.hid hg7
      clear hO7 hB7 hb7 hg7
      obtain ⟨i0, hi⟩ := info_parts infoR
      simp only [List.drop_succ_cons, List.drop_zero]
      refine wpList_append_own _ rfl _ _ 42 rfl w.heap.size 75 i0 _ 3 32 Tryz.underlying42 hi.1 hi.2.1 hi.2.2.1 hi.2.2.2 rfl (by decide) _ _ _ rfl HO7.out ⟨g7, 0, none⟩ 1 1 [.int .i64 k, .string t, .int .i64 q] rfl rfl ?c1 ?c2 ?c3 ?c4 ?c5 ?_
      case c1 =>
        intro jj u hu
        rcases jj with _ | _ | _ | jj
        · cases hu; exact cells_at HG7.out 0 _ rfl
        · cases hu; exact cells_at HG7.out 1 _ rfl
        · cases hu; exact cells_at HG7.out 2 _ rfl
        · simp at hu
      case c2 => simp [Value.oneCell']
      case c3 => unfold maxLen; omega
      case c4 => omega
      case c5 => omega
      intro v6 w6 hO6 hg6 _
      have hB6 : Below w.heap.size w w6 := HB7.out.grown hg6 (by omega) (fun z e => by have := (HO7.out.lt z e).1; omega)
      have hO6' : w6.ownsRow w.heap.size 75 3 v6 (j + 1) (cellsR (toks.take (j + 1))) := by
        rw [take_snocT HX.out, cellsR_append]
        exact hO6
      have HO6 := Lib.hid hO6'
      have HB6 := Lib.hid hB6
      clear hO6 hO6' hg6 hB6 hi
      go_wp2_with fail
      go_roundw
      case rel => exact ⟨j + 1, _, by omega, by go_num, rfl, HO6.out, HB6.out⟩
      case measure => simp [intOf]; omega
    · have e : toks.take j = toks := List.take_of_length_le (by omega)
      have ej : j = toks.length := by omega
      rw [e, ej] at HRW
      clear e hrow hB
      go_wp2
      go_ret
      exact ⟨_, rfl, HRW.out, HBW.out⟩
end Go.Proofs.YtgepfenjbjlgpaaGreatDoor
