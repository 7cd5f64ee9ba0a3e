/- The examples of the chapter: plain facts of the terms, and slots told by what they stand for. -/
import Derived.Test.YtikofhldihimaaaGreatDoorRs
import Derived.Test.YtikofhldihimaaaGreatDoorVr
import Derived.Test.YtikofhldihimaaaGreatDoorSt
import Derived.Test.YtikofhldihimaaaGreatDoorRg
namespace Go.Proofs.YtikofhldihimaaaGreatDoor
open Go.RowKit

theorem slot_of {a : Array Value} {i n : Nat} {v : Value} (hs : a.size = n) (hi : i < n) (h : a.getD i undef = v) : a[i]'(hs ▸ hi) = v := by
  subst hs
  simpa [Array.getD_eq_getD_getElem?, hi] using h

/-- A block keeps its cells. -/
def HasRow (p : Nat) (cs : Array Value) (w : World) : Prop := w.heap[p]? = some (.cells cs 24 (0, 0))
theorem HasRow.grow {p : Nat} {cs : Array Value} {w w' : World} (h : HasRow p cs w) (hb : Below w.heap.size w w') : HasRow p cs w' := (hb.block p (Array.getElem?_eq_some_iff.1 h).1).trans h
theorem HasRow.lt {p : Nat} {cs : Array Value} {w : World} (h : HasRow p cs w) : p < w.heap.size := (Array.getElem?_eq_some_iff.1 h).1
theorem HasRow.free {p : Nat} {cs : Array Value} {w : World} (h : HasRow p cs w) (i : Nat) : w.frozen? ⟨p, i, none⟩ = false := by
  have h' : w.heap[p]? = _ := h
  simp [World.frozen?, h']
theorem HasRow.put {p : Nat} {cs : Array Value} {w : World} (h : HasRow p cs w) (i : Nat) (v : Value) : HasRow p (cs.setIfInBounds i v) (w.setCell ⟨p, i, none⟩ v) := by
  have h' : w.heap[p]? = _ := h
  unfold HasRow
  simp [World.setCell, Array.getElem?_modify, h']
theorem HasRow.other {p : Nat} {cs : Array Value} {w : World} (h : HasRow p cs w) {g : Nat} (hne : p ≠ g) (i : Nat) (v : Value) : HasRow p cs (w.setCell ⟨g, i, none⟩ v) :=
  (Below.heap_setCell w ⟨g, i, none⟩ v p hne).trans h
theorem HasRow.ne {p q : Nat} {cs ds : Array Value} {w : World} (h : HasRow p cs w) (h' : HasRow q ds w) (hne : cs ≠ ds) : p ≠ q := by
  rintro rfl
  have := Option.some.inj (h.symm.trans h')
  injection this with e
  exact hne e

theorem tms_nil {B b off : Nat} {w : World} : IsTms B w b off [] := by simp only [IsTms]
theorem tms_cons {B b off : Nat} {w : World} {cs : Array Value} {t : Tm} {ts : List Tm} (h : HasRow b cs w) {c0 c1 c2 c3 : Value} (h0 : cs[off]? = some c0) (h1 : cs[off + 1]? = some c1) (h2 : cs[off + 2]? = some c2) (h3 : cs[off + 3]? = some c3)
    (ht : IsTm B w c0 c1 c2 c3 t) (hr : IsTms B w b (off + 4) ts) : IsTms B w b off (t :: ts) := by
  simp only [IsTms]
  exact ⟨c0, c1, c2, c3, cells_at h _ _ h0, cells_at h _ _ h1, cells_at h _ _ h2, cells_at h _ _ h3, ht, hr⟩
theorem sl_one {r : Nat} {w : World} {x0 x1 x2 x3 : Value} {s : Tm} (h : HasRow r #[x0, x1, x2, x3] w) (hx : IsTm w.heap.size w x0 x1 x2 x3 s) : SlV w (.slice (some ⟨r, 0, none⟩) 1 1) [s] :=
  ⟨_, _, rfl, by unfold maxLen; simp, fun _ => ⟨r, 0, rfl, h.lt, tms_cons h rfl rfl rfl rfl hx tms_nil⟩⟩
theorem sl_two {r : Nat} {w : World} {x0 x1 x2 x3 y0 y1 y2 y3 : Value} {s t : Tm} (h : HasRow r #[x0, x1, x2, x3, y0, y1, y2, y3] w) (hx : IsTm w.heap.size w x0 x1 x2 x3 s) (hy : IsTm w.heap.size w y0 y1 y2 y3 t) :
    SlV w (.slice (some ⟨r, 0, none⟩) 2 2) [s, t] :=
  ⟨_, _, rfl, by unfold maxLen; simp, fun _ => ⟨r, 0, rfl, h.lt, tms_cons h rfl rfl rfl rfl hx (tms_cons h rfl rfl rfl rfl hy tms_nil)⟩⟩

def tX : Tm := .mk 3 0 ⟨#[88]⟩ []
def tA : Tm := tOp ⟨#[45]⟩ [tFun ⟨#[102]⟩ [tNum 1, tX], tNum 3]
def t12 : Tm := tOp ⟨#[45]⟩ [tNum 1, tNum 2]
def t123 : Tm := tOp ⟨#[45]⟩ [t12, tNum 3]
def t23 : Tm := tOp ⟨#[45]⟩ [tNum 2, tNum 3]
def t1_23 : Tm := tOp ⟨#[45]⟩ [tNum 1, t23]
def tm5 : Tm := tOp ⟨#[45]⟩ [tNum 5]
def ta : Tm := tSym ⟨#[97]⟩
def tb : Tm := tSym ⟨#[98]⟩
def tRise : List Tm := [tNum (-1), tNum 7, ta, tb, tFun ⟨#[102]⟩ [ta], tFun ⟨#[103]⟩ [ta], tFun ⟨#[102]⟩ [ta, ta]]

theorem tA_depth : tA.depth = 3 := by rfl
theorem tA_ground : tA.groundB = false := by rfl
theorem tA_valid : tA.validB = true := by
  simp [tA, tX, tOp, tFun, tNum, Tm.validB, Tm.nodes, Tm.nodesL, nodeOkB, reqB, symbolB, variableB, operB, Tm.kind, Tm.num, Tm.name, Tm.args, ByteArray.toList_eq]
  exact ⟨⟨by rfl, by rfl⟩, by rfl, Or.inl (by rfl)⟩
theorem tA_value : tA.valueB = false := by
  simp [tA, tX, tOp, tFun, tNum, Tm.valueB, plainB, Tm.nodes, Tm.nodesL, Tm.kind]
theorem tA_text : tA.text = [102,40,49,44,88,41,45,51] := by
  simp [tA, tX, tOp, tFun, tNum, Tm.text, Tm.textF, Tm.textO, Lib.itoa, Lib.decDigits, enclosedB, strengthI, Tm.kind, ByteArray.toList_eq]
theorem str_of {t : Tm} {l : List UInt8} (hv : t.validB = true) (ht : t.text = l) : t.str = ⟨l.toArray⟩ := by rw [Tm.str, if_pos hv, ht]
theorem t123_valid : t123.validB = true := by
  simp [t123, t12, tOp, tNum, Tm.validB, Tm.nodes, Tm.nodesL, nodeOkB, reqB, operB, Tm.kind, Tm.num, Tm.name, Tm.args, ByteArray.toList_eq]
theorem t123_text : t123.text = [49,45,50,45,51] := by
  simp [t123, t12, tOp, tNum, Tm.text, Tm.textO, Lib.itoa, Lib.decDigits, enclosedB, strengthI, Tm.strength, Tm.kind, Tm.name, Tm.args, ByteArray.toList_eq]
theorem t1_23_valid : t1_23.validB = true := by
  simp [t1_23, t23, tOp, tNum, Tm.validB, Tm.nodes, Tm.nodesL, nodeOkB, reqB, operB, Tm.kind, Tm.num, Tm.name, Tm.args, ByteArray.toList_eq]
theorem t1_23_text : t1_23.text = [49,45,40,50,45,51,41] := by
  simp [t1_23, t23, tOp, tNum, Tm.text, Tm.textO, Lib.itoa, Lib.decDigits, enclosedB, strengthI, Tm.strength, Tm.kind, Tm.name, Tm.args, ByteArray.toList_eq]
theorem tm5_valid : tm5.validB = true := by
  simp [tm5, tOp, tNum, Tm.validB, Tm.nodes, Tm.nodesL, nodeOkB, reqB, operB, Tm.kind, Tm.num, Tm.name, Tm.args, ByteArray.toList_eq]
theorem tm5_text : tm5.text = [45,40,53,41] := by
  simp [tm5, tOp, tNum, Tm.text, Tm.textO, Lib.itoa, Lib.decDigits, enclosedB, strengthI, Tm.kind]
theorem n5_valid : (tNum (-5)).validB = true := by
  simp [tNum, Tm.validB, Tm.nodes, Tm.nodesL, nodeOkB, reqB, Tm.kind, Tm.num, Tm.name, Tm.args, ByteArray.toList_eq]
theorem n5_text : (tNum (-5)).text = [45,53] := by
  simp [tNum, Tm.text, Lib.itoa, Lib.decDigits]
set_option maxRecDepth 10000 in
theorem rises_list (i : Nat) (h : i + 1 < tRise.length) : Tm.cmp tRise[i] tRise[i + 1] = -1 := by
  have h7 : i + 1 < 7 := by simpa [tRise] using h
  have h6 : i < 6 := by omega
  match i, h6 with
  | 0, _ | 1, _ | 2, _ | 3, _ | 4, _ | 5, _ => simp [tRise, ta, tb, tFun, tNum, tSym, Tm.cmp, rankI, orI, strCmp, Lib.compareInt, Op.bytesLess, ByteArray.toList_eq]

theorem tA_str : tA.str = ⟨#[102,40,49,44,88,41,45,51]⟩ := str_of tA_valid tA_text
theorem tA_len : tA.text.length ≤ 140737488355328 := by rw [tA_text]; decide
theorem tA_dep : tA.depth < 4611686018427387900 := by show 3 < _; omega
theorem t123_str : t123.str = ⟨#[49,45,50,45,51]⟩ := str_of t123_valid t123_text
theorem t123_len : t123.text.length ≤ 140737488355328 := by rw [t123_text]; decide
theorem t123_dep : t123.depth < 4611686018427387900 := by show 3 < _; omega
theorem t1_23_str : t1_23.str = ⟨#[49,45,40,50,45,51,41]⟩ := str_of t1_23_valid t1_23_text
theorem t1_23_len : t1_23.text.length ≤ 140737488355328 := by rw [t1_23_text]; decide
theorem t1_23_dep : t1_23.depth < 4611686018427387900 := by show 3 < _; omega
theorem tm5_str : tm5.str = ⟨#[45,40,53,41]⟩ := str_of tm5_valid tm5_text
theorem tm5_len : tm5.text.length ≤ 140737488355328 := by rw [tm5_text]; decide
theorem tm5_dep : tm5.depth < 4611686018427387900 := by show 2 < _; omega
theorem n5_str : (tNum (-5)).str = ⟨#[45,53]⟩ := str_of n5_valid n5_text
theorem n5_len : (tNum (-5)).text.length ≤ 140737488355328 := by rw [n5_text]; decide
theorem n5_dep : (tNum (-5)).depth < 4611686018427387900 := by show 1 < _; omega
theorem tA_count : (tA.nodes 1).length ≤ 1000000000 := by show 5 ≤ _; omega
theorem tA_names : varNames (tA.nodes 1) = [[88]] := by rfl
theorem tA_vars {ss : List (List UInt8)} (h : SVars tA ss) : ss = [[88]] := by
  obtain ⟨hp, hm⟩ := h
  rw [tA_names] at hm
  cases ss with
  | nil => simpa using (hm [88]).2 (by simp)
  | cons x r =>
    have hx : x = [88] := by simpa using (hm x).1 (by simp)
    cases r with
    | nil => rw [hx]
    | cons y r =>
      have hy : y = [88] := by simpa using (hm y).1 (by simp)
      subst hx hy
      have := List.rel_of_pairwise_cons hp (List.mem_cons_self)
      exact absurd this (by decide)

theorem tm_node {w : World} {k n : Int} {s : ByteArray} {us : List Tm} {v : Value} (hk : 0 ≤ k ∧ k ≤ 255) (hn : I64 n) (hs : s.size ≤ maxLen) (h : SlV w v us) : IsTm w.heap.size w (.int .u8 k) (.int .i64 n) (.string s) v (.mk k n s us) := by
  obtain ⟨a, cap, rfl, hl, hr⟩ := h
  exact isTm_mk hk hn hs hl hr
theorem sl_nil {w : World} : SlV w (.slice none 0 0) [] := ⟨none, 0, rfl, by unfold maxLen; simp, fun h => absurd rfl h⟩
theorem one_small (b : UInt8) : (ByteArray.mk #[b]).size ≤ maxLen := by unfold maxLen; show 1 ≤ _; omega
theorem none_small : (ByteArray.mk #[]).size ≤ maxLen := by unfold maxLen; exact Nat.zero_le _
theorem num_holds {w : World} {n : Int} (hn : I64 n) : IsTm w.heap.size w (.int .u8 1) (.int .i64 n) (.string ⟨#[]⟩) (.slice none 0 0) (tNum n) := tm_node (by omega) hn none_small sl_nil
theorem sym_holds {w : World} {b : UInt8} : IsTm w.heap.size w (.int .u8 2) (.int .i64 0) (.string ⟨#[b]⟩) (.slice none 0 0) (tSym ⟨#[b]⟩) := tm_node (by omega) (i64_mk (by omega)) (one_small b) sl_nil
theorem tX_holds {w : World} : IsTm w.heap.size w (.int .u8 3) (.int .i64 0) (.string ⟨#[88]⟩) (.slice none 0 0) tX := tm_node (by omega) (i64_mk (by omega)) (one_small 88) sl_nil
theorem tA_holds {w : World} {p q : Nat} (hp : HasRow p #[.int .u8 1, .int .i64 1, .string ⟨#[]⟩, .slice none 0 0, .int .u8 3, .int .i64 0, .string ⟨#[88]⟩, .slice none 0 0] w)
    (hq : HasRow q #[.int .u8 4, .int .i64 0, .string ⟨#[102]⟩, .slice (some ⟨p, 0, none⟩) 2 2, .int .u8 1, .int .i64 3, .string ⟨#[]⟩, .slice none 0 0] w) :
    IsTm w.heap.size w (.int .u8 5) (.int .i64 0) (.string ⟨#[45]⟩) (.slice (some ⟨q, 0, none⟩) 2 2) tA :=
  tm_node (by omega) (i64_mk (by omega)) (one_small 45)
    (sl_two hq (tm_node (by omega) (i64_mk (by omega)) (one_small 102) (sl_two hp (num_holds (i64_mk (by omega))) tX_holds)) (num_holds (i64_mk (by omega))))

theorem str_row {w : World} {r cap : Nat} {s : ByteArray} {cs : Array Value} {f : Nat × Nat} {τ : TypeId} (h : w.heap[r]? = some (.cells cs τ f)) (h0 : cs[0]? = some (.string s)) : StrV w (.slice (some ⟨r, 0, none⟩) 1 cap) [s] :=
  ⟨_, _, rfl, by unfold maxLen; simp, fun _ => ⟨r, 0, rfl, (Array.getElem?_eq_some_iff.1 h).1, fun i hi => by
    have : i = 0 := by simpa using hi
    subst this
    exact cells_at h _ _ h0⟩⟩
theorem str_owns {w : World} {base : Nat} {v : Value} {l : List UInt8} (h : w.ownsRow base 9 1 v 1 [encStr l]) : StrV w v [⟨l.toArray⟩] := by
  obtain ⟨_, ⟨_, h⟩ | ⟨g, cap, cur, rfl, _, hg, _, _, hs, ht⟩⟩ := h
  · omega
  · refine str_row hg ?_
    have h0 : cur.toList[0]? = some (encStr l) := by
      have : (cur.toList.take (1 * 1))[0]? = some (encStr l) := by rw [ht]; rfl
      rwa [List.getElem?_take_of_lt (by omega)] at this
    simpa using h0

/-- What a slot stands for. -/
inductive Desc where
  | tm (t : Tm) | sl (ts : List Tm) | str (l : List ByteArray) | val (v : Value)
def Desc.holds (v : Value) (w : World) : Desc → Prop
  | .tm t => TmV w v t
  | .sl ts => SlV w v ts
  | .str l => StrV w v l
  | .val u => v = u
theorem Desc.grow {d : Desc} {v : Value} {w w' : World} (h : d.holds v w) (hb : Below w.heap.size w w') : d.holds v w' := by
  cases d with
  | tm => exact TmV.grow h hb
  | sl => exact SlV.grow h hb
  | str => exact StrV.grow h hb
  | val => exact h
def FD (ds : List Desc) : Facts := fun i v w => match ds[i]? with
  | some d => d.holds v w
  | none => True
theorem FD_grow (ds : List Desc) (i : Nat) (v : Value) (w w' : World) (h : FD ds i v w) (hb : Below w.heap.size w w') : FD ds i v w' := by
  unfold FD at *
  cases hd : ds[i]? with
  | none => trivial
  | some d => rw [hd] at h; exact Desc.grow h hb
theorem FD_at {ds : List Desc} {i : Nat} {v : Value} {w : World} (d : Desc) (hd : ds[i]? = some d) (h : FD ds i v w) : d.holds v w := by
  unfold FD at h
  rw [hd] at h
  exact h
theorem FD_mk {ds : List Desc} {i : Nat} {v : Value} {w : World} (d : Desc) (hd : ds[i]? = some d) (h : d.holds v w) : FD ds i v w := by
  unfold FD
  rw [hd]
  exact h
theorem wanted_of {o : Oper} {y : Nat → Option Bool} {k : Nat} (hg : o.guard = some (k, true)) (hy : y k = some true) : Region.wanted o y = true := by
  unfold Region.wanted
  rw [hg]
  simp [hy]
theorem sl_seven {r : Nat} {w : World} {a0 a1 a2 a3 b0 b1 b2 b3 c0 c1 c2 c3 d0 d1 d2 d3 e0 e1 e2 e3 f0 f1 f2 f3 g0 g1 g2 g3 : Value} {a b c d e f g : Tm}
    (h : HasRow r #[a0, a1, a2, a3, b0, b1, b2, b3, c0, c1, c2, c3, d0, d1, d2, d3, e0, e1, e2, e3, f0, f1, f2, f3, g0, g1, g2, g3] w)
    (ha : IsTm w.heap.size w a0 a1 a2 a3 a) (hb : IsTm w.heap.size w b0 b1 b2 b3 b) (hc : IsTm w.heap.size w c0 c1 c2 c3 c) (hd : IsTm w.heap.size w d0 d1 d2 d3 d) (he : IsTm w.heap.size w e0 e1 e2 e3 e)
    (hf : IsTm w.heap.size w f0 f1 f2 f3 f) (hg : IsTm w.heap.size w g0 g1 g2 g3 g) : SlV w (.slice (some ⟨r, 0, none⟩) 7 7) [a, b, c, d, e, f, g] :=
  ⟨_, _, rfl, by unfold maxLen; simp, fun _ => ⟨r, 0, rfl, h.lt, tms_cons h rfl rfl rfl rfl ha (tms_cons h rfl rfl rfl rfl hb (tms_cons h rfl rfl rfl rfl hc (tms_cons h rfl rfl rfl rfl hd
    (tms_cons h rfl rfl rfl rfl he (tms_cons h rfl rfl rfl rfl hf (tms_cons h rfl rfl rfl rfl hg tms_nil))))))⟩⟩

theorem val_at {ops : Array Oper} {ds : List Desc} {o : Oper} {a : Act} {w : World} (hp : HP ops (FD ds) o a w) (j d : Nat) {u : Value} (h : fromOp ops o j d = true) (hd : ds[j]? = some (.val u)) : a.tmps.getD d undef = u := FD_at _ hd (facts_at hp j d h)
theorem tm_at {ops : Array Oper} {ds : List Desc} {o : Oper} {a : Act} {w : World} (hp : HP ops (FD ds) o a w) (j d : Nat) (t : Tm) (h : fromOp ops o j d = true) (hd : ds[j]? = some (.tm t)) : TmV w (a.tmps.getD d undef) t := FD_at _ hd (facts_at hp j d h)
theorem sl_at {ops : Array Oper} {ds : List Desc} {o : Oper} {a : Act} {w : World} (hp : HP ops (FD ds) o a w) (j d : Nat) (t : List Tm) (h : fromOp ops o j d = true) (hd : ds[j]? = some (.sl t)) : SlV w (a.tmps.getD d undef) t := FD_at _ hd (facts_at hp j d h)
theorem str_at {ops : Array Oper} {ds : List Desc} {o : Oper} {a : Act} {w : World} (hp : HP ops (FD ds) o a w) (j d : Nat) (t : List ByteArray) (h : fromOp ops o j d = true) (hd : ds[j]? = some (.str t)) : StrV w (a.tmps.getD d undef) t := FD_at _ hd (facts_at hp j d h)
end Go.Proofs.YtikofhldihimaaaGreatDoor
