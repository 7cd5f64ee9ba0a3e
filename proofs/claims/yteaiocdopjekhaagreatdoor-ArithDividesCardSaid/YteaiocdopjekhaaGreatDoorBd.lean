/- The law of quotients: its walk. -/
import Derived.Test.YteaiocdopjekhaaGreatDoorAf
import Derived.Test.YteaiocdopjekhaaGreatDoorRi
import Derived.Test.YteaiocdopjekhaaGreatDoorRm
import Derived.IntWalk
namespace Go.Proofs.YteaiocdopjekhaaGreatDoor
open Go.RowKit

/-- What a call of Calc owes. -/
def CalcIs (op : UInt8) (l : List Int) (q : Int) (x : Bool) : Prop := ∀ w, Calls Tryz.prog 10 #[.string ⟨#[op]⟩, .slice (some ⟨w.heap.size, 0, none⟩) l.length l.length] (w.alloc (.cells (l.map (Value.int .i64)).toArray 3)) fun e w' => e = .returned (.tuple #[.int .i64 q, .bool x]) ∧ Below w.heap.size w w'
theorem calcIs (op : UInt8) (l : List Int) (hl : l.length ≤ 2) : CalcIs op l ((calcI [op] l).getD 0) (calcI [op] l).isSome := by
  intro w
  have h := World.alloc_heap_new w (.cells (l.map (Value.int .i64)).toArray 3)
  have hv : IntV (w.alloc (.cells (l.map (Value.int .i64)).toArray 3)) (.slice (some ⟨w.heap.size, 0, none⟩) l.length l.length) l :=
    ⟨_, _, rfl, by unfold maxLen; omega, fun _ => ⟨w.heap.size, 0, rfl, by simp, fun i hi => by
      rw [Nat.zero_add]
      exact cells_at h i _ (by simp [hi])⟩⟩
  refine (calc_any ⟨#[op]⟩ (by unfold maxLen; simp [ByteArray.size]) l _ _ hv).mono ?_
  rintro e w' ⟨rfl, hb⟩
  refine ⟨?_, ((Below.refl _ w).alloc (Nat.le_refl _) _).trans (hb.mono (by simp))⟩
  rw [show (⟨#[op]⟩ : ByteArray).toList = [op] from toList_mk [op]]
  cases calcI [op] l <;> rfl
def bdDescs3 (a b : Int) (B27 B30 B34 B38 : Bool) : List Du := [.val (.int .i64 (a)), .val (.bool (B27)), .val (.bool (B27)), .val (cond (gon (true) (B27) true) (.int .i64 (a)) undef), .val (cond (gon (true) (B27) true) (.bool (B30)) undef), .val (.bool ((B27 && B30))), .val (.bool ((B27 && B30))), .val (cond (gon (true) ((B27 && B30)) true) (.int .i64 (b)) undef), .val (cond (gon (true) ((B27 && B30)) true) (.bool (B34)) undef), .val (.bool (((B27 && B30) && B34))), .val (.bool (((B27 && B30) && B34))), .val (cond (gon (true) (((B27 && B30) && B34)) true) (.int .i64 (b)) undef), .val (cond (gon (true) (((B27 && B30) && B34)) true) (.bool (B38)) undef), .val (.bool ((((B27 && B30) && B34) && B38))), .val (.bool ((((B27 && B30) && B34) && B38)))]
def bdDescs6 (b q r : Int) (ins x y B58 B71 B74 : Bool) : List Du := [.val (.bool (x)), .val (.bool (ins)), .val (.bool (ins)), .val (cond (gon (true) (ins) true) (.int .i64 (b)) undef), .val (cond (gon (true) (ins) true) (.bool (B58)) undef), .val (.bool ((ins && B58))), .val (.bool ((x != (ins && B58)))), .val (.bool ((x != (ins && B58)))), .val (cond (gon (true) ((x != (ins && B58))) false) (.bool (y)) undef), .val (cond (gon (true) ((x != (ins && B58))) false) (.bool (x)) undef), .val (cond (gon (true) ((x != (ins && B58))) false) (.bool ((y != x))) undef), .val (.bool (((x != (ins && B58)) || (y != x)))), .val (.bool (((x != (ins && B58)) || (y != x)))), .val (cond (gon (true) (((x != (ins && B58)) || (y != x))) false) (.bool (x)) undef), .val (cond (gon (true) (((x != (ins && B58)) || (y != x))) false) (.bool (!(x))) undef), .val (cond (gon (true) (((x != (ins && B58)) || (y != x))) false) (.bool (!(x))) undef), .val (cond (gon (gon (true) (((x != (ins && B58)) || (y != x))) false) (!(x)) true) (.int .i64 (q)) undef), .val (cond (gon (gon (true) (((x != (ins && B58)) || (y != x))) false) (!(x)) true) (.bool (B71)) undef), .val (cond (gon (gon (true) (((x != (ins && B58)) || (y != x))) false) (!(x)) true) (.bool (B71)) undef), .val (cond (gon (gon (gon (true) (((x != (ins && B58)) || (y != x))) false) (!(x)) true) (B71) false) (.int .i64 (r)) undef), .val (cond (gon (gon (gon (true) (((x != (ins && B58)) || (y != x))) false) (!(x)) true) (B71) false) (.bool (B74)) undef), .val (cond (gon (gon (true) (((x != (ins && B58)) || (y != x))) false) (!(x)) true) (.bool ((B71 || B74))) undef), .val (cond (gon (true) (((x != (ins && B58)) || (y != x))) false) (.bool ((!(x) && (B71 || B74)))) undef), .val (.bool ((((x != (ins && B58)) || (y != x)) || (!(x) && (B71 || B74)))))]
def bdDescs8 (a b q r : Int) (x B86 B89 B92 B97 B100 B109 B118 : Bool) : List Du := [.val (.bool (x)), .val (.bool (x)), .val (cond (gon (true) (x) true) (.int .i64 (q)) undef), .val (cond (gon (true) (x) true) (.int .i64 (b)) undef), .val (cond (gon (true) (x) true) (.int .i64 (IntKind.i64.wrap ((q) * (b)))) undef), .val (cond (gon (true) (x) true) (.int .i64 (r)) undef), .val (cond (gon (true) (x) true) (.int .i64 (IntKind.i64.wrap ((IntKind.i64.wrap ((q) * (b))) + (r)))) undef), .val (cond (gon (true) (x) true) (.int .i64 (a)) undef), .val (cond (gon (true) (x) true) (.bool (B86)) undef), .val (cond (gon (true) (x) true) (.bool (B86)) undef), .val (cond (gon (gon (true) (x) true) (B86) false) (.int .i64 (r)) undef), .val (cond (gon (gon (true) (x) true) (B86) false) (.bool (B89)) undef), .val (cond (gon (gon (true) (x) true) (B86) false) (.bool (B89)) undef), .val (cond (gon (gon (gon (true) (x) true) (B86) false) (B89) true) (.int .i64 (a)) undef), .val (cond (gon (gon (gon (true) (x) true) (B86) false) (B89) true) (.bool (B92)) undef), .val (cond (gon (gon (true) (x) true) (B86) false) (.bool ((B89 && B92))) undef), .val (cond (gon (true) (x) true) (.bool ((B86 || (B89 && B92)))) undef), .val (cond (gon (true) (x) true) (.bool ((B86 || (B89 && B92)))) undef), .val (cond (gon (gon (true) (x) true) ((B86 || (B89 && B92))) false) (.int .i64 (r)) undef), .val (cond (gon (gon (true) (x) true) ((B86 || (B89 && B92))) false) (.bool (B97)) undef), .val (cond (gon (gon (true) (x) true) ((B86 || (B89 && B92))) false) (.bool (B97)) undef), .val (cond (gon (gon (gon (true) (x) true) ((B86 || (B89 && B92))) false) (B97) true) (.int .i64 (a)) undef), .val (cond (gon (gon (gon (true) (x) true) ((B86 || (B89 && B92))) false) (B97) true) (.bool (B100)) undef), .val (cond (gon (gon (true) (x) true) ((B86 || (B89 && B92))) false) (.bool ((B97 && B100))) undef), .val (cond (gon (true) (x) true) (.bool (((B86 || (B89 && B92)) || (B97 && B100)))) undef), .val (cond (gon (true) (x) true) (.bool (((B86 || (B89 && B92)) || (B97 && B100)))) undef), .val (cond (gon (gon (true) (x) true) (((B86 || (B89 && B92)) || (B97 && B100))) false) (.int .i64 (r)) undef), .val (cond (gon (gon (true) (x) true) (((B86 || (B89 && B92)) || (B97 && B100))) false) (.int .i64 (b)) undef), .val (cond (gon (gon (true) (x) true) (((B86 || (B89 && B92)) || (B97 && B100))) false) (.int .i64 (b)) undef), .val (cond (gon (gon (true) (x) true) (((B86 || (B89 && B92)) || (B97 && B100))) false) (.int .i64 (IntKind.i64.wrap (-(b)))) undef), .val (cond (gon (gon (true) (x) true) (((B86 || (B89 && B92)) || (B97 && B100))) false) (.int .i64 (max (b) (IntKind.i64.wrap (-(b))))) undef), .val (cond (gon (gon (true) (x) true) (((B86 || (B89 && B92)) || (B97 && B100))) false) (.bool (B109)) undef), .val (cond (gon (true) (x) true) (.bool ((((B86 || (B89 && B92)) || (B97 && B100)) || B109))) undef), .val (cond (gon (true) (x) true) (.bool ((((B86 || (B89 && B92)) || (B97 && B100)) || B109))) undef), .val (cond (gon (gon (true) (x) true) ((((B86 || (B89 && B92)) || (B97 && B100)) || B109)) false) (.int .i64 (r)) undef), .val (cond (gon (gon (true) (x) true) ((((B86 || (B89 && B92)) || (B97 && B100)) || B109)) false) (.int .i64 (IntKind.i64.wrap (-(r)))) undef), .val (cond (gon (gon (true) (x) true) ((((B86 || (B89 && B92)) || (B97 && B100)) || B109)) false) (.int .i64 (b)) undef), .val (cond (gon (gon (true) (x) true) ((((B86 || (B89 && B92)) || (B97 && B100)) || B109)) false) (.int .i64 (b)) undef), .val (cond (gon (gon (true) (x) true) ((((B86 || (B89 && B92)) || (B97 && B100)) || B109)) false) (.int .i64 (IntKind.i64.wrap (-(b)))) undef), .val (cond (gon (gon (true) (x) true) ((((B86 || (B89 && B92)) || (B97 && B100)) || B109)) false) (.int .i64 (max (b) (IntKind.i64.wrap (-(b))))) undef), .val (cond (gon (gon (true) (x) true) ((((B86 || (B89 && B92)) || (B97 && B100)) || B109)) false) (.bool (B118)) undef), .val (cond (gon (true) (x) true) (.bool (((((B86 || (B89 && B92)) || (B97 && B100)) || B109) || B118))) undef), .val (.bool ((x && ((((B86 || (B89 && B92)) || (B97 && B100)) || B109) || B118))))]
def bdDescs16 (a b s t p u d c : Int) (i j k m n o B164 B173 B187 B197 B207 B213 B216 B226 : Bool) : List Du := [.val (.int .i64 (s)), .val (.int .i64 (t)), .val (.bool (B164)), .val (.bool (B164)), .val (cond (gon (true) (B164) false) (.bool (i)) undef), .val (cond (gon (true) (B164) false) (.bool (j)) undef), .val (cond (gon (true) (B164) false) (.bool ((i != j))) undef), .val (.bool ((B164 || (i != j)))), .val (.bool ((B164 || (i != j)))), .val (cond (gon (true) ((B164 || (i != j))) false) (.int .i64 (p)) undef), .val (cond (gon (true) ((B164 || (i != j))) false) (.int .i64 (u)) undef), .val (cond (gon (true) ((B164 || (i != j))) false) (.bool (B173)) undef), .val (.bool (((B164 || (i != j)) || B173))), .val (.bool (((B164 || (i != j)) || B173))), .val (cond (gon (true) (((B164 || (i != j)) || B173)) false) (.bool (k)) undef), .val (cond (gon (true) (((B164 || (i != j)) || B173)) false) (.bool (m)) undef), .val (cond (gon (true) (((B164 || (i != j)) || B173)) false) (.bool ((k != m))) undef), .val (.bool ((((B164 || (i != j)) || B173) || (k != m)))), .val (.bool ((((B164 || (i != j)) || B173) || (k != m)))), .val (cond (gon (true) ((((B164 || (i != j)) || B173) || (k != m))) false) (.bool (i)) undef), .val (cond (gon (true) ((((B164 || (i != j)) || B173) || (k != m))) false) (.bool (i)) undef), .val (cond (gon (gon (true) ((((B164 || (i != j)) || B173) || (k != m))) false) (i) true) (.int .i64 (s)) undef), .val (cond (gon (gon (true) ((((B164 || (i != j)) || B173) || (k != m))) false) (i) true) (.int .i64 (a)) undef), .val (cond (gon (gon (true) ((((B164 || (i != j)) || B173) || (k != m))) false) (i) true) (.int .i64 (b)) undef), .val (cond (gon (gon (true) ((((B164 || (i != j)) || B173) || (k != m))) false) (i) true) (.int .i64 (IntKind.i64.wrap ((a) + (b)))) undef), .val (cond (gon (gon (true) ((((B164 || (i != j)) || B173) || (k != m))) false) (i) true) (.bool (B187)) undef), .val (cond (gon (true) ((((B164 || (i != j)) || B173) || (k != m))) false) (.bool ((i && B187))) undef), .val (.bool (((((B164 || (i != j)) || B173) || (k != m)) || (i && B187)))), .val (.bool (((((B164 || (i != j)) || B173) || (k != m)) || (i && B187)))), .val (cond (gon (true) (((((B164 || (i != j)) || B173) || (k != m)) || (i && B187))) false) (.bool (k)) undef), .val (cond (gon (true) (((((B164 || (i != j)) || B173) || (k != m)) || (i && B187))) false) (.bool (k)) undef), .val (cond (gon (gon (true) (((((B164 || (i != j)) || B173) || (k != m)) || (i && B187))) false) (k) true) (.int .i64 (p)) undef), .val (cond (gon (gon (true) (((((B164 || (i != j)) || B173) || (k != m)) || (i && B187))) false) (k) true) (.int .i64 (a)) undef), .val (cond (gon (gon (true) (((((B164 || (i != j)) || B173) || (k != m)) || (i && B187))) false) (k) true) (.int .i64 (b)) undef), .val (cond (gon (gon (true) (((((B164 || (i != j)) || B173) || (k != m)) || (i && B187))) false) (k) true) (.int .i64 (IntKind.i64.wrap ((a) * (b)))) undef), .val (cond (gon (gon (true) (((((B164 || (i != j)) || B173) || (k != m)) || (i && B187))) false) (k) true) (.bool (B197)) undef), .val (cond (gon (true) (((((B164 || (i != j)) || B173) || (k != m)) || (i && B187))) false) (.bool ((k && B197))) undef), .val (.bool ((((((B164 || (i != j)) || B173) || (k != m)) || (i && B187)) || (k && B197)))), .val (.bool ((((((B164 || (i != j)) || B173) || (k != m)) || (i && B187)) || (k && B197)))), .val (cond (gon (true) ((((((B164 || (i != j)) || B173) || (k != m)) || (i && B187)) || (k && B197))) false) (.bool (n)) undef), .val (cond (gon (true) ((((((B164 || (i != j)) || B173) || (k != m)) || (i && B187)) || (k && B197))) false) (.bool (n)) undef), .val (cond (gon (gon (true) ((((((B164 || (i != j)) || B173) || (k != m)) || (i && B187)) || (k && B197))) false) (n) true) (.int .i64 (d)) undef), .val (cond (gon (gon (true) ((((((B164 || (i != j)) || B173) || (k != m)) || (i && B187)) || (k && B197))) false) (n) true) (.int .i64 (a)) undef), .val (cond (gon (gon (true) ((((((B164 || (i != j)) || B173) || (k != m)) || (i && B187)) || (k && B197))) false) (n) true) (.int .i64 (b)) undef), .val (cond (gon (gon (true) ((((((B164 || (i != j)) || B173) || (k != m)) || (i && B187)) || (k && B197))) false) (n) true) (.int .i64 (IntKind.i64.wrap ((a) - (b)))) undef), .val (cond (gon (gon (true) ((((((B164 || (i != j)) || B173) || (k != m)) || (i && B187)) || (k && B197))) false) (n) true) (.bool (B207)) undef), .val (cond (gon (true) ((((((B164 || (i != j)) || B173) || (k != m)) || (i && B187)) || (k && B197))) false) (.bool ((n && B207))) undef), .val (.bool (((((((B164 || (i != j)) || B173) || (k != m)) || (i && B187)) || (k && B197)) || (n && B207)))), .val (.bool (((((((B164 || (i != j)) || B173) || (k != m)) || (i && B187)) || (k && B197)) || (n && B207)))), .val (cond (gon (true) (((((((B164 || (i != j)) || B173) || (k != m)) || (i && B187)) || (k && B197)) || (n && B207))) false) (.bool (o)) undef), .val (cond (gon (true) (((((((B164 || (i != j)) || B173) || (k != m)) || (i && B187)) || (k && B197)) || (n && B207))) false) (.int .i64 (b)) undef), .val (cond (gon (true) (((((((B164 || (i != j)) || B173) || (k != m)) || (i && B187)) || (k && B197)) || (n && B207))) false) (.bool (B213)) undef), .val (cond (gon (true) (((((((B164 || (i != j)) || B173) || (k != m)) || (i && B187)) || (k && B197)) || (n && B207))) false) (.bool (B213)) undef), .val (cond (gon (gon (true) (((((((B164 || (i != j)) || B173) || (k != m)) || (i && B187)) || (k && B197)) || (n && B207))) false) (B213) true) (.int .i64 (b)) undef), .val (cond (gon (gon (true) (((((((B164 || (i != j)) || B173) || (k != m)) || (i && B187)) || (k && B197)) || (n && B207))) false) (B213) true) (.bool (B216)) undef), .val (cond (gon (true) (((((((B164 || (i != j)) || B173) || (k != m)) || (i && B187)) || (k && B197)) || (n && B207))) false) (.bool ((B213 && B216))) undef), .val (cond (gon (true) (((((((B164 || (i != j)) || B173) || (k != m)) || (i && B187)) || (k && B197)) || (n && B207))) false) (.bool ((o != (B213 && B216)))) undef), .val (.bool ((((((((B164 || (i != j)) || B173) || (k != m)) || (i && B187)) || (k && B197)) || (n && B207)) || (o != (B213 && B216))))), .val (.bool ((((((((B164 || (i != j)) || B173) || (k != m)) || (i && B187)) || (k && B197)) || (n && B207)) || (o != (B213 && B216))))), .val (cond (gon (true) ((((((((B164 || (i != j)) || B173) || (k != m)) || (i && B187)) || (k && B197)) || (n && B207)) || (o != (B213 && B216)))) false) (.bool (o)) undef), .val (cond (gon (true) ((((((((B164 || (i != j)) || B173) || (k != m)) || (i && B187)) || (k && B197)) || (n && B207)) || (o != (B213 && B216)))) false) (.bool (o)) undef), .val (cond (gon (gon (true) ((((((((B164 || (i != j)) || B173) || (k != m)) || (i && B187)) || (k && B197)) || (n && B207)) || (o != (B213 && B216)))) false) (o) true) (.int .i64 (c)) undef), .val (cond (gon (gon (true) ((((((((B164 || (i != j)) || B173) || (k != m)) || (i && B187)) || (k && B197)) || (n && B207)) || (o != (B213 && B216)))) false) (o) true) (.int .i64 (b)) undef), .val (cond (gon (gon (true) ((((((((B164 || (i != j)) || B173) || (k != m)) || (i && B187)) || (k && B197)) || (n && B207)) || (o != (B213 && B216)))) false) (o) true) (.int .i64 (IntKind.i64.wrap (-(b)))) undef), .val (cond (gon (gon (true) ((((((((B164 || (i != j)) || B173) || (k != m)) || (i && B187)) || (k && B197)) || (n && B207)) || (o != (B213 && B216)))) false) (o) true) (.bool (B226)) undef), .val (cond (gon (true) ((((((((B164 || (i != j)) || B173) || (k != m)) || (i && B187)) || (k && B197)) || (n && B207)) || (o != (B213 && B216)))) false) (.bool ((o && B226))) undef), .val (.bool (((((((((B164 || (i != j)) || B173) || (k != m)) || (i && B187)) || (k && B197)) || (n && B207)) || (o != (B213 && B216))) || (o && B226))))]
def bdDescs19 (a b d e : Int) (ins i k n f B241 B252 B257 B266 B271 : Bool) : List Du := [.val (.bool (ins)), .val (.bool (!(ins))), .val (.bool (!(ins))), .val (cond (gon (true) (!(ins)) false) (.int .i64 (d)) undef), .val (cond (gon (true) (!(ins)) false) (.int .i64 (e)) undef), .val (cond (gon (true) (!(ins)) false) (.bool (B241)) undef), .val (cond (gon (true) (!(ins)) false) (.bool (B241)) undef), .val (cond (gon (gon (true) (!(ins)) false) (B241) true) (.bool (n)) undef), .val (cond (gon (gon (true) (!(ins)) false) (B241) true) (.bool (f)) undef), .val (cond (gon (gon (true) (!(ins)) false) (B241) true) (.bool ((n == f))) undef), .val (cond (gon (true) (!(ins)) false) (.bool ((B241 && (n == f)))) undef), .val (cond (gon (true) (!(ins)) false) (.bool ((B241 && (n == f)))) undef), .val (cond (gon (gon (true) (!(ins)) false) ((B241 && (n == f))) true) (.bool (i)) undef), .val (cond (gon (gon (true) (!(ins)) false) ((B241 && (n == f))) true) (.int .i64 (a)) undef), .val (cond (gon (gon (true) (!(ins)) false) ((B241 && (n == f))) true) (.int .i64 (b)) undef), .val (cond (gon (gon (true) (!(ins)) false) ((B241 && (n == f))) true) (.int .i64 (IntKind.i64.wrap ((a) + (b)))) undef), .val (cond (gon (gon (true) (!(ins)) false) ((B241 && (n == f))) true) (.bool (B252)) undef), .val (cond (gon (gon (true) (!(ins)) false) ((B241 && (n == f))) true) (.bool (B252)) undef), .val (cond (gon (gon (gon (true) (!(ins)) false) ((B241 && (n == f))) true) (B252) true) (.int .i64 (a)) undef), .val (cond (gon (gon (gon (true) (!(ins)) false) ((B241 && (n == f))) true) (B252) true) (.int .i64 (b)) undef), .val (cond (gon (gon (gon (true) (!(ins)) false) ((B241 && (n == f))) true) (B252) true) (.int .i64 (IntKind.i64.wrap ((a) + (b)))) undef), .val (cond (gon (gon (gon (true) (!(ins)) false) ((B241 && (n == f))) true) (B252) true) (.bool (B257)) undef), .val (cond (gon (gon (true) (!(ins)) false) ((B241 && (n == f))) true) (.bool ((B252 && B257))) undef), .val (cond (gon (gon (true) (!(ins)) false) ((B241 && (n == f))) true) (.bool ((i == (B252 && B257)))) undef), .val (cond (gon (true) (!(ins)) false) (.bool (((B241 && (n == f)) && (i == (B252 && B257))))) undef), .val (cond (gon (true) (!(ins)) false) (.bool (((B241 && (n == f)) && (i == (B252 && B257))))) undef), .val (cond (gon (gon (true) (!(ins)) false) (((B241 && (n == f)) && (i == (B252 && B257)))) true) (.bool (k)) undef), .val (cond (gon (gon (true) (!(ins)) false) (((B241 && (n == f)) && (i == (B252 && B257)))) true) (.int .i64 (a)) undef), .val (cond (gon (gon (true) (!(ins)) false) (((B241 && (n == f)) && (i == (B252 && B257)))) true) (.int .i64 (b)) undef), .val (cond (gon (gon (true) (!(ins)) false) (((B241 && (n == f)) && (i == (B252 && B257)))) true) (.int .i64 (IntKind.i64.wrap ((a) * (b)))) undef), .val (cond (gon (gon (true) (!(ins)) false) (((B241 && (n == f)) && (i == (B252 && B257)))) true) (.bool (B266)) undef), .val (cond (gon (gon (true) (!(ins)) false) (((B241 && (n == f)) && (i == (B252 && B257)))) true) (.bool (B266)) undef), .val (cond (gon (gon (gon (true) (!(ins)) false) (((B241 && (n == f)) && (i == (B252 && B257)))) true) (B266) true) (.int .i64 (a)) undef), .val (cond (gon (gon (gon (true) (!(ins)) false) (((B241 && (n == f)) && (i == (B252 && B257)))) true) (B266) true) (.int .i64 (b)) undef), .val (cond (gon (gon (gon (true) (!(ins)) false) (((B241 && (n == f)) && (i == (B252 && B257)))) true) (B266) true) (.int .i64 (IntKind.i64.wrap ((a) * (b)))) undef), .val (cond (gon (gon (gon (true) (!(ins)) false) (((B241 && (n == f)) && (i == (B252 && B257)))) true) (B266) true) (.bool (B271)) undef), .val (cond (gon (gon (true) (!(ins)) false) (((B241 && (n == f)) && (i == (B252 && B257)))) true) (.bool ((B266 && B271))) undef), .val (cond (gon (gon (true) (!(ins)) false) (((B241 && (n == f)) && (i == (B252 && B257)))) true) (.bool ((k == (B266 && B271)))) undef), .val (cond (gon (true) (!(ins)) false) (.bool ((((B241 && (n == f)) && (i == (B252 && B257))) && (k == (B266 && B271))))) undef), .val (.bool ((!(ins) || (((B241 && (n == f)) && (i == (B252 && B257))) && (k == (B266 && B271)))))), .val (.bool ((!(ins) || (((B241 && (n == f)) && (i == (B252 && B257))) && (k == (B266 && B271))))))]

set_option maxRecDepth 100000 in
set_option maxHeartbeats 40000000 in
theorem divides_walk (a b q r s t p u d c e : Int) (ins x y i j k m n o f : Bool) (w : World)
    (HAW0 : ∀ w, Calls Tryz.prog 8 #[] w fun e w' => e = .returned (.bool true) ∧ Below w.heap.size w w')
    (hins0 : (((((decide (((a : Int)) ≥ (-2147483647))) && (decide (((a : Int)) ≤ (2147483647)))) && (decide (((b : Int)) ≥ (-2147483647)))) && (decide (((b : Int)) ≤ (2147483647))))) = ins)
    (Cq0 : CalcIs 47 [a, b] q x)
    (Cr0 : CalcIs 92 [a, b] r y)
    (Cs0 : CalcIs 43 [a, b] s i)
    (Ct0 : CalcIs 43 [b, a] t j)
    (Cp0 : CalcIs 42 [a, b] p k)
    (Cu0 : CalcIs 42 [b, a] u m)
    (Cd0 : CalcIs 45 [a, b] d n)
    (Cc0 : CalcIs 45 [b] c o)
    (Ce0 : CalcIs 43 [a, c] e f)
    (M770 : ((((x != (ins && (((b : Int)) != (0)))) || (y != x)) || (!(x) && ((((q : Int)) != (0)) || (((r : Int)) != (0)))))) = false)
    (M1200 : ((x && (((((((IntKind.i64.wrap ((IntKind.i64.wrap ((q) * (b))) + (r)) : Int)) != (a)) || ((decide (((r : Int)) < (0))) && (decide (((a : Int)) ≥ (0))))) || ((decide (((r : Int)) > (0))) && (decide (((a : Int)) ≤ (0))))) || (decide (((r : Int)) ≥ (max (b) (IntKind.i64.wrap (-(b))))))) || (decide (((IntKind.i64.wrap (-(r)) : Int)) ≥ (max (b) (IntKind.i64.wrap (-(b))))))))) = false)
    (M2280 : ((((((((((((s : Int)) != (t)) || (i != j)) || (((p : Int)) != (u))) || (k != m)) || (i && (((s : Int)) != (IntKind.i64.wrap ((a) + (b)))))) || (k && (((p : Int)) != (IntKind.i64.wrap ((a) * (b)))))) || (n && (((d : Int)) != (IntKind.i64.wrap ((a) - (b)))))) || (o != ((decide (((b : Int)) ≥ (-2147483647))) && (decide (((b : Int)) ≤ (2147483647)))))) || (o && (((c : Int)) != (IntKind.i64.wrap (-(b))))))) = false)
    (M40 : ((!(ins) || ((((((d : Int)) == (e)) && (n == f)) && (i == ((decide (((IntKind.i64.wrap ((a) + (b)) : Int)) ≥ (-2147483647))) && (decide (((IntKind.i64.wrap ((a) + (b)) : Int)) ≤ (2147483647)))))) && (k == ((decide (((IntKind.i64.wrap ((a) * (b)) : Int)) ≥ (-2147483647))) && (decide (((IntKind.i64.wrap ((a) * (b)) : Int)) ≤ (2147483647)))))))) = true) :
    Calls Tryz.prog 5 #[.int .i64 a, .int .i64 b] w fun e w' => e = .returned (.bool true) ∧ Below w.heap.size w w' := by
  have HAW := Lib.hid HAW0
  have HIN := Lib.hid hins0
  have Cq := Lib.hid Cq0
  have Cr := Lib.hid Cr0
  have Cs := Lib.hid Cs0
  have Ct := Lib.hid Ct0
  have Cp := Lib.hid Cp0
  have Cu := Lib.hid Cu0
  have Cd := Lib.hid Cd0
  have Cc := Lib.hid Cc0
  have Ce := Lib.hid Ce0
  have M77 := Lib.hid M770
  have M120 := Lib.hid M1200
  have M228 := Lib.hid M2280
  have M4 := Lib.hid M40
  clear HAW0 hins0 Cq0 Cr0 Cs0 Ct0 Cp0 Cu0 Cd0 Cc0 Ce0 M770 M1200 M2280 M40
  go_enter Tryz.func5, Tryz.ntmps5
  refine wp_seq_k fun K hK => ?_
  have HK := Lib.hid hK
  clear hK
  go_wp2_with fail
  refine HK.out _ _ ?_
  clear HK
  refine wp_seq_k fun K hK => ?_
  have HK := Lib.hid hK
  clear hK
  go_wp2_with (go_at_call 8; refine (HAW.out w).mono ?_)
  rintro e w1 ⟨rfl, b1⟩
  have BW := Lib.hid b1
  clear b1 HAW
  go_wp2_with fail
  refine HK.out _ _ ?_
  clear HK
  refine wp_seq_k fun K hK => ?_
  have HK := Lib.hid hK
  clear hK
  obtain ⟨B27, hB27⟩ : ∃ x : Bool, (decide (((a : Int)) ≥ (-2147483647))) = x := ⟨_, rfl⟩
  obtain ⟨B30, hB30⟩ : ∃ x : Bool, (decide (((a : Int)) ≤ (2147483647))) = x := ⟨_, rfl⟩
  obtain ⟨B34, hB34⟩ : ∃ x : Bool, (decide (((b : Int)) ≥ (-2147483647))) = x := ⟨_, rfl⟩
  obtain ⟨B38, hB38⟩ : ∃ x : Bool, (decide (((b : Int)) ≤ (2147483647))) = x := ⟨_, rfl⟩
  refine wp_region_fix (FU (bdDescs3 a b B27 B30 B34 B38)) (FU_grow _) (by kernel_rfl) (steps_fix ?_) ?_
  · refine ⟨?_, ?_, ?_, ?_, ?_, ?_, ?_, ?_, ?_, ?_, ?_, ?_, ?_, ?_, ?_, trivial⟩
    · intro ac wx hb hd hs ho hp
      refine Or.inl ⟨rfl, ?_⟩
      have h0 : ac.tmps.getD 0 undef = .int .i64 (a) := (ho 0 (by kernel_rfl)).trans rfl
      unfold Oper.wp
      go_simp
      exact Stepped.at rfl hd (Below.refl _ _) (FU_mk (.val (.int .i64 (a))) rfl (by show (_ : Value) = _; first | rfl | (first | rfl | simp) | (simp [*])))
    · intro ac wx hb hd hs ho hp
      refine Or.inl ⟨rfl, ?_⟩
      have h26 : ac.tmps.getD 26 undef = .int .i64 (a) := ival_at hp 0 26 (by kernel_rfl) rfl
      unfold Oper.wp
      go_simp
      exact Stepped.at rfl hd (Below.refl _ _) (FU_mk (.val (.bool (B27))) rfl (by show (_ : Value) = _; first | rfl | (rw [← hB27]; first | rfl | simp) | (simp [*])))
    · intro ac wx hb hd hs ho hp
      refine Or.inl ⟨rfl, ?_⟩
      have h27 : ac.tmps.getD 27 undef = .bool (B27) := ival_at hp 1 27 (by kernel_rfl) rfl
      unfold Oper.wp
      go_simp
      exact Stepped.at rfl hd (Below.refl _ _) (FU_mk (.val (.bool (B27))) rfl (by show (_ : Value) = _; first | rfl | (first | rfl | simp) | (simp [*])))
    · intro ac wx hb hd hs ho hp
      have hg : ac.tmps.getD 28 undef = cond (true) (.bool (B27)) undef := ival_at hp 2 28 (by kernel_rfl) rfl
      rcases Bool.eq_false_or_eq_true (gon (true) (B27) true) with hc | hc
      rotate_left
      · exact Or.inr ⟨(wanted_gon (k := 2) (d := 28) rfl (by kernel_rfl) hg).trans hc, fun d hd => FU_mk (.val _) rfl (by rw [hc]; rfl)⟩
      refine Or.inl ⟨(wanted_gon (k := 2) (d := 28) rfl (by kernel_rfl) hg).trans hc, ?_⟩
      have HC := Lib.hid hc
      clear hg hc
      have h0 : ac.tmps.getD 0 undef = .int .i64 (a) := (ho 0 (by kernel_rfl)).trans rfl
      unfold Oper.wp
      go_simp
      exact Stepped.at rfl hd (Below.refl _ _) (FU_mk (.val (cond (gon (true) (B27) true) (.int .i64 (a)) undef)) rfl (by show (_ : Value) = _; first | rfl | (rw [HC.out]; first | rfl | simp) | (rw [HC.out]; simp [*])))
    · intro ac wx hb hd hs ho hp
      have hg : ac.tmps.getD 28 undef = cond (true) (.bool (B27)) undef := ival_at hp 2 28 (by kernel_rfl) rfl
      rcases Bool.eq_false_or_eq_true (gon (true) (B27) true) with hc | hc
      rotate_left
      · exact Or.inr ⟨(wanted_gon (k := 2) (d := 28) rfl (by kernel_rfl) hg).trans hc, fun d hd => FU_mk (.val _) rfl (by rw [hc]; rfl)⟩
      refine Or.inl ⟨(wanted_gon (k := 2) (d := 28) rfl (by kernel_rfl) hg).trans hc, ?_⟩
      have HC := Lib.hid hc
      clear hg hc
      have h29 : ac.tmps.getD 29 undef = cond (gon (true) (B27) true) (.int .i64 (a)) undef := ival_at hp 3 29 (by kernel_rfl) rfl
      rw [HC.out, cond_true] at h29
      unfold Oper.wp
      go_simp
      exact Stepped.at rfl hd (Below.refl _ _) (FU_mk (.val (cond (gon (true) (B27) true) (.bool (B30)) undef)) rfl (by show (_ : Value) = _; first | rfl | (rw [HC.out]; rw [← hB30]; first | rfl | simp) | (rw [HC.out]; simp [*])))
    · intro ac wx hb hd hs ho hp
      refine Or.inl ⟨rfl, ?_⟩
      have h28 : ac.tmps.getD 28 undef = .bool (B27) := ival_at hp 2 28 (by kernel_rfl) rfl
      rcases Bool.eq_false_or_eq_true (B27) with e | e
      · rw [e] at h28
        have E := Lib.hid e
        clear e
        have h30 : ac.tmps.getD 30 undef = cond (gon (true) (B27) true) (.bool (B30)) undef := ival_at hp 4 30 (by kernel_rfl) rfl
        rw [gon_mk rfl E.out, cond_true] at h30
        unfold Oper.wp
        go_simp
        exact Stepped.at rfl hd (Below.refl _ _) (FU_mk (.val (.bool ((B27 && B30)))) rfl (by show (_ : Value) = _; first | (simp only [E.out, Bool.true_and]; done) | simp [E.out]))
      · rw [e] at h28
        have E := Lib.hid e
        clear e
        unfold Oper.wp
        go_simp
        exact Stepped.at rfl hd (Below.refl _ _) (FU_mk (.val (.bool ((B27 && B30)))) rfl (by show (_ : Value) = _; first | (simp only [E.out, Bool.false_and]; done) | simp [E.out]))
    · intro ac wx hb hd hs ho hp
      refine Or.inl ⟨rfl, ?_⟩
      have h31 : ac.tmps.getD 31 undef = .bool ((B27 && B30)) := ival_at hp 5 31 (by kernel_rfl) rfl
      unfold Oper.wp
      go_simp
      exact Stepped.at rfl hd (Below.refl _ _) (FU_mk (.val (.bool ((B27 && B30)))) rfl (by show (_ : Value) = _; first | rfl | (first | rfl | simp) | (simp [*])))
    · intro ac wx hb hd hs ho hp
      have hg : ac.tmps.getD 32 undef = cond (true) (.bool ((B27 && B30))) undef := ival_at hp 6 32 (by kernel_rfl) rfl
      rcases Bool.eq_false_or_eq_true (gon (true) ((B27 && B30)) true) with hc | hc
      rotate_left
      · exact Or.inr ⟨(wanted_gon (k := 6) (d := 32) rfl (by kernel_rfl) hg).trans hc, fun d hd => FU_mk (.val _) rfl (by rw [hc]; rfl)⟩
      refine Or.inl ⟨(wanted_gon (k := 6) (d := 32) rfl (by kernel_rfl) hg).trans hc, ?_⟩
      have HC := Lib.hid hc
      clear hg hc
      have h1 : ac.tmps.getD 1 undef = .int .i64 (b) := (ho 1 (by kernel_rfl)).trans rfl
      unfold Oper.wp
      go_simp
      exact Stepped.at rfl hd (Below.refl _ _) (FU_mk (.val (cond (gon (true) ((B27 && B30)) true) (.int .i64 (b)) undef)) rfl (by show (_ : Value) = _; first | rfl | (rw [HC.out]; first | rfl | simp) | (rw [HC.out]; simp [*])))
    · intro ac wx hb hd hs ho hp
      have hg : ac.tmps.getD 32 undef = cond (true) (.bool ((B27 && B30))) undef := ival_at hp 6 32 (by kernel_rfl) rfl
      rcases Bool.eq_false_or_eq_true (gon (true) ((B27 && B30)) true) with hc | hc
      rotate_left
      · exact Or.inr ⟨(wanted_gon (k := 6) (d := 32) rfl (by kernel_rfl) hg).trans hc, fun d hd => FU_mk (.val _) rfl (by rw [hc]; rfl)⟩
      refine Or.inl ⟨(wanted_gon (k := 6) (d := 32) rfl (by kernel_rfl) hg).trans hc, ?_⟩
      have HC := Lib.hid hc
      clear hg hc
      have h33 : ac.tmps.getD 33 undef = cond (gon (true) ((B27 && B30)) true) (.int .i64 (b)) undef := ival_at hp 7 33 (by kernel_rfl) rfl
      rw [HC.out, cond_true] at h33
      unfold Oper.wp
      go_simp
      exact Stepped.at rfl hd (Below.refl _ _) (FU_mk (.val (cond (gon (true) ((B27 && B30)) true) (.bool (B34)) undef)) rfl (by show (_ : Value) = _; first | rfl | (rw [HC.out]; rw [← hB34]; first | rfl | simp) | (rw [HC.out]; simp [*])))
    · intro ac wx hb hd hs ho hp
      refine Or.inl ⟨rfl, ?_⟩
      have h32 : ac.tmps.getD 32 undef = .bool ((B27 && B30)) := ival_at hp 6 32 (by kernel_rfl) rfl
      rcases Bool.eq_false_or_eq_true ((B27 && B30)) with e | e
      · rw [e] at h32
        have E := Lib.hid e
        clear e
        have h34 : ac.tmps.getD 34 undef = cond (gon (true) ((B27 && B30)) true) (.bool (B34)) undef := ival_at hp 8 34 (by kernel_rfl) rfl
        rw [gon_mk rfl E.out, cond_true] at h34
        unfold Oper.wp
        go_simp
        exact Stepped.at rfl hd (Below.refl _ _) (FU_mk (.val (.bool (((B27 && B30) && B34)))) rfl (by show (_ : Value) = _; first | (simp only [E.out, Bool.true_and]; done) | simp [E.out]))
      · rw [e] at h32
        have E := Lib.hid e
        clear e
        unfold Oper.wp
        go_simp
        exact Stepped.at rfl hd (Below.refl _ _) (FU_mk (.val (.bool (((B27 && B30) && B34)))) rfl (by show (_ : Value) = _; first | (simp only [E.out, Bool.false_and]; done) | simp [E.out]))
    · intro ac wx hb hd hs ho hp
      refine Or.inl ⟨rfl, ?_⟩
      have h35 : ac.tmps.getD 35 undef = .bool (((B27 && B30) && B34)) := ival_at hp 9 35 (by kernel_rfl) rfl
      unfold Oper.wp
      go_simp
      exact Stepped.at rfl hd (Below.refl _ _) (FU_mk (.val (.bool (((B27 && B30) && B34)))) rfl (by show (_ : Value) = _; first | rfl | (first | rfl | simp) | (simp [*])))
    · intro ac wx hb hd hs ho hp
      have hg : ac.tmps.getD 36 undef = cond (true) (.bool (((B27 && B30) && B34))) undef := ival_at hp 10 36 (by kernel_rfl) rfl
      rcases Bool.eq_false_or_eq_true (gon (true) (((B27 && B30) && B34)) true) with hc | hc
      rotate_left
      · exact Or.inr ⟨(wanted_gon (k := 10) (d := 36) rfl (by kernel_rfl) hg).trans hc, fun d hd => FU_mk (.val _) rfl (by rw [hc]; rfl)⟩
      refine Or.inl ⟨(wanted_gon (k := 10) (d := 36) rfl (by kernel_rfl) hg).trans hc, ?_⟩
      have HC := Lib.hid hc
      clear hg hc
      have h1 : ac.tmps.getD 1 undef = .int .i64 (b) := (ho 1 (by kernel_rfl)).trans rfl
      unfold Oper.wp
      go_simp
      exact Stepped.at rfl hd (Below.refl _ _) (FU_mk (.val (cond (gon (true) (((B27 && B30) && B34)) true) (.int .i64 (b)) undef)) rfl (by show (_ : Value) = _; first | rfl | (rw [HC.out]; first | rfl | simp) | (rw [HC.out]; simp [*])))
    · intro ac wx hb hd hs ho hp
      have hg : ac.tmps.getD 36 undef = cond (true) (.bool (((B27 && B30) && B34))) undef := ival_at hp 10 36 (by kernel_rfl) rfl
      rcases Bool.eq_false_or_eq_true (gon (true) (((B27 && B30) && B34)) true) with hc | hc
      rotate_left
      · exact Or.inr ⟨(wanted_gon (k := 10) (d := 36) rfl (by kernel_rfl) hg).trans hc, fun d hd => FU_mk (.val _) rfl (by rw [hc]; rfl)⟩
      refine Or.inl ⟨(wanted_gon (k := 10) (d := 36) rfl (by kernel_rfl) hg).trans hc, ?_⟩
      have HC := Lib.hid hc
      clear hg hc
      have h37 : ac.tmps.getD 37 undef = cond (gon (true) (((B27 && B30) && B34)) true) (.int .i64 (b)) undef := ival_at hp 11 37 (by kernel_rfl) rfl
      rw [HC.out, cond_true] at h37
      unfold Oper.wp
      go_simp
      exact Stepped.at rfl hd (Below.refl _ _) (FU_mk (.val (cond (gon (true) (((B27 && B30) && B34)) true) (.bool (B38)) undef)) rfl (by show (_ : Value) = _; first | rfl | (rw [HC.out]; rw [← hB38]; first | rfl | simp) | (rw [HC.out]; simp [*])))
    · intro ac wx hb hd hs ho hp
      refine Or.inl ⟨rfl, ?_⟩
      have h36 : ac.tmps.getD 36 undef = .bool (((B27 && B30) && B34)) := ival_at hp 10 36 (by kernel_rfl) rfl
      rcases Bool.eq_false_or_eq_true (((B27 && B30) && B34)) with e | e
      · rw [e] at h36
        have E := Lib.hid e
        clear e
        have h38 : ac.tmps.getD 38 undef = cond (gon (true) (((B27 && B30) && B34)) true) (.bool (B38)) undef := ival_at hp 12 38 (by kernel_rfl) rfl
        rw [gon_mk rfl E.out, cond_true] at h38
        unfold Oper.wp
        go_simp
        exact Stepped.at rfl hd (Below.refl _ _) (FU_mk (.val (.bool ((((B27 && B30) && B34) && B38)))) rfl (by show (_ : Value) = _; first | (simp only [E.out, Bool.true_and]; done) | simp [E.out]))
      · rw [e] at h36
        have E := Lib.hid e
        clear e
        unfold Oper.wp
        go_simp
        exact Stepped.at rfl hd (Below.refl _ _) (FU_mk (.val (.bool ((((B27 && B30) && B34) && B38)))) rfl (by show (_ : Value) = _; first | (simp only [E.out, Bool.false_and]; done) | simp [E.out]))
    · intro ac wx hb hd hs ho hp
      refine Or.inl ⟨rfl, ?_⟩
      have h39 : ac.tmps.getD 39 undef = .bool ((((B27 && B30) && B34) && B38)) := ival_at hp 13 39 (by kernel_rfl) rfl
      unfold Oper.wp
      go_simp
      exact Stepped.at rfl hd (Below.refl _ _) (FU_mk (.val (.bool ((((B27 && B30) && B34) && B38)))) rfl (by show (_ : Value) = _; first | rfl | (first | rfl | simp) | (simp [*])))
  intro ac wx hJ
  have f5 : ac.tmps.getD 5 undef = .bool ((((B27 && B30) && B34) && B38)) := FU_at (.val (.bool ((((B27 && B30) && B34) && B38)))) rfl (hJ.at_end 14 5 (by kernel_rfl))
  have e5 : ((((B27 && B30) && B34) && B38)) = ins := by
    subst hB27 hB30 hB34 hB38
    exact HIN.out
  rw [e5] at f5
  clear e5 HIN
  have BX := Lib.hid (BW.out.trans (hJ.below.mono BW.out.size))
  clear BW
  have BW := BX
  clear BX
  obtain ⟨u26, f26⟩ : ∃ u, ac.tmps.getD 26 undef = u := ⟨_, rfl⟩
  obtain ⟨u27, f27⟩ : ∃ u, ac.tmps.getD 27 undef = u := ⟨_, rfl⟩
  obtain ⟨u28, f28⟩ : ∃ u, ac.tmps.getD 28 undef = u := ⟨_, rfl⟩
  obtain ⟨u29, f29⟩ : ∃ u, ac.tmps.getD 29 undef = u := ⟨_, rfl⟩
  obtain ⟨u30, f30⟩ : ∃ u, ac.tmps.getD 30 undef = u := ⟨_, rfl⟩
  obtain ⟨u31, f31⟩ : ∃ u, ac.tmps.getD 31 undef = u := ⟨_, rfl⟩
  obtain ⟨u32, f32⟩ : ∃ u, ac.tmps.getD 32 undef = u := ⟨_, rfl⟩
  obtain ⟨u33, f33⟩ : ∃ u, ac.tmps.getD 33 undef = u := ⟨_, rfl⟩
  obtain ⟨u34, f34⟩ : ∃ u, ac.tmps.getD 34 undef = u := ⟨_, rfl⟩
  obtain ⟨u35, f35⟩ : ∃ u, ac.tmps.getD 35 undef = u := ⟨_, rfl⟩
  obtain ⟨u36, f36⟩ : ∃ u, ac.tmps.getD 36 undef = u := ⟨_, rfl⟩
  obtain ⟨u37, f37⟩ : ∃ u, ac.tmps.getD 37 undef = u := ⟨_, rfl⟩
  obtain ⟨u38, f38⟩ : ∃ u, ac.tmps.getD 38 undef = u := ⟨_, rfl⟩
  obtain ⟨u39, f39⟩ : ∃ u, ac.tmps.getD 39 undef = u := ⟨_, rfl⟩
  obtain ⟨T, D⟩ := ac
  obtain rfl : D = [] := hJ.defers
  have hE := slots_merge [false, false, false, false, false, true, false, false, false, false, false, false, false, false, false, false, false, false, false, false, false, false, false, false, false, false, true, true, true, true, true, true, true, true, true, true, true, true, true, true, false, false, false, false, false, false, false, false, false, false, false, false, false, false, false, false, false, false, false, false, false, false, false, false, false, false, false, false, false, false, false, false, false, false, false, false, false, false, false, false, false, false, false, false, false, false, false, false, false, false, false, false, false, false, false, false, false, false, false, false, false, false, false, false, false, false, false, false, false, false, false, false, false, false, false, false, false, false, false, false, false, false, false, false, false, false, false, false, false, false, false, false, false, false, false, false, false, false, false, false, false, false, false, false, false, false, false, false, false, false, false, false, false, false, false, false, false, false, false, false, false, false, false, false, false, false, false, false, false, false, false, false, false, false, false, false, false, false, false, false, false, false, false, false, false, false, false, false, false, false, false, false, false, false, false, false, false, false, false, false, false, false, false, false, false, false, false, false, false, false, false, false, false, false, false, false, false, false, false, false, false, false, false, false, false, false, false, false, false, false, false, false, false, false, false, false, false, false, false, false, false, false, false, false, false, false, false, false, false, false, false, false, false, false, false, false, false, false, false, false, false, false, false, false, false, false, false, false, false, false, false, false, false, false, false, false] 276 hJ.tmps rfl (by kernel_rfl) hJ.outer
  simp only [mergeFrom, Nat.zero_add, Nat.reduceAdd, f26, f27, f28, f29, f30, f31, f32, f33, f34, f35, f36, f37, f38, f39, f5] at hE
  clear hJ f26 f27 f28 f29 f30 f31 f32 f33 f34 f35 f36 f37 f38 f39 f5 hB27 hB30 hB34 hB38
  subst hE
  refine HK.out _ _ ?_
  clear HK
  refine wp_seq_k fun K hK => ?_
  have HK := Lib.hid hK
  clear hK
  go_wp2_with (go_at_call 10; refine (Cq.out wx).mono ?_)
  rintro e w104 ⟨rfl, b1⟩
  have BX := Lib.hid (BW.out.trans (b1.mono BW.out.size))
  clear b1 BW Cq
  have BW := BX
  clear BX
  go_wp2_with fail
  refine HK.out _ _ ?_
  clear HK
  refine wp_seq_k fun K hK => ?_
  have HK := Lib.hid hK
  clear hK
  go_wp2_with (go_at_call 10; refine (Cr.out w104).mono ?_)
  rintro e w105 ⟨rfl, b1⟩
  have BX := Lib.hid (BW.out.trans (b1.mono BW.out.size))
  clear b1 BW Cr
  have BW := BX
  clear BX
  go_wp2_with fail
  refine HK.out _ _ ?_
  clear HK
  refine wp_seq_k fun K hK => ?_
  have HK := Lib.hid hK
  clear hK
  refine wp_seq_k fun K hK => ?_
  have HK2 := Lib.hid hK
  clear hK
  obtain ⟨B58, hB58⟩ : ∃ x : Bool, (((b : Int)) != (0)) = x := ⟨_, rfl⟩
  obtain ⟨B71, hB71⟩ : ∃ x : Bool, (((q : Int)) != (0)) = x := ⟨_, rfl⟩
  obtain ⟨B74, hB74⟩ : ∃ x : Bool, (((r : Int)) != (0)) = x := ⟨_, rfl⟩
  refine wp_region_fix (FU (bdDescs6 b q r ins x y B58 B71 B74)) (FU_grow _) (by kernel_rfl) (steps_fix ?_) ?_
  · refine ⟨?_, ?_, ?_, ?_, ?_, ?_, ?_, ?_, ?_, ?_, ?_, ?_, ?_, ?_, ?_, ?_, ?_, ?_, ?_, ?_, ?_, ?_, ?_, ?_, trivial⟩
    · intro ac wx hb hd hs ho hp
      refine Or.inl ⟨rfl, ?_⟩
      have h7 : ac.tmps.getD 7 undef = .bool (x) := (ho 7 (by kernel_rfl)).trans rfl
      unfold Oper.wp
      go_simp
      exact Stepped.at rfl hd (Below.refl _ _) (FU_mk (.val (.bool (x))) rfl (by show (_ : Value) = _; first | rfl | (first | rfl | simp) | (simp [*])))
    · intro ac wx hb hd hs ho hp
      refine Or.inl ⟨rfl, ?_⟩
      have h5 : ac.tmps.getD 5 undef = .bool (ins) := (ho 5 (by kernel_rfl)).trans rfl
      unfold Oper.wp
      go_simp
      exact Stepped.at rfl hd (Below.refl _ _) (FU_mk (.val (.bool (ins))) rfl (by show (_ : Value) = _; first | rfl | (first | rfl | simp) | (simp [*])))
    · intro ac wx hb hd hs ho hp
      refine Or.inl ⟨rfl, ?_⟩
      have h55 : ac.tmps.getD 55 undef = .bool (ins) := ival_at hp 1 55 (by kernel_rfl) rfl
      unfold Oper.wp
      go_simp
      exact Stepped.at rfl hd (Below.refl _ _) (FU_mk (.val (.bool (ins))) rfl (by show (_ : Value) = _; first | rfl | (first | rfl | simp) | (simp [*])))
    · intro ac wx hb hd hs ho hp
      have hg : ac.tmps.getD 56 undef = cond (true) (.bool (ins)) undef := ival_at hp 2 56 (by kernel_rfl) rfl
      rcases Bool.eq_false_or_eq_true (gon (true) (ins) true) with hc | hc
      rotate_left
      · exact Or.inr ⟨(wanted_gon (k := 2) (d := 56) rfl (by kernel_rfl) hg).trans hc, fun d hd => FU_mk (.val _) rfl (by rw [hc]; rfl)⟩
      refine Or.inl ⟨(wanted_gon (k := 2) (d := 56) rfl (by kernel_rfl) hg).trans hc, ?_⟩
      have HC := Lib.hid hc
      clear hg hc
      have h1 : ac.tmps.getD 1 undef = .int .i64 (b) := (ho 1 (by kernel_rfl)).trans rfl
      unfold Oper.wp
      go_simp
      exact Stepped.at rfl hd (Below.refl _ _) (FU_mk (.val (cond (gon (true) (ins) true) (.int .i64 (b)) undef)) rfl (by show (_ : Value) = _; first | rfl | (rw [HC.out]; first | rfl | simp) | (rw [HC.out]; simp [*])))
    · intro ac wx hb hd hs ho hp
      have hg : ac.tmps.getD 56 undef = cond (true) (.bool (ins)) undef := ival_at hp 2 56 (by kernel_rfl) rfl
      rcases Bool.eq_false_or_eq_true (gon (true) (ins) true) with hc | hc
      rotate_left
      · exact Or.inr ⟨(wanted_gon (k := 2) (d := 56) rfl (by kernel_rfl) hg).trans hc, fun d hd => FU_mk (.val _) rfl (by rw [hc]; rfl)⟩
      refine Or.inl ⟨(wanted_gon (k := 2) (d := 56) rfl (by kernel_rfl) hg).trans hc, ?_⟩
      have HC := Lib.hid hc
      clear hg hc
      have h57 : ac.tmps.getD 57 undef = cond (gon (true) (ins) true) (.int .i64 (b)) undef := ival_at hp 3 57 (by kernel_rfl) rfl
      rw [HC.out, cond_true] at h57
      unfold Oper.wp
      go_simp
      exact Stepped.at rfl hd (Below.refl _ _) (FU_mk (.val (cond (gon (true) (ins) true) (.bool (B58)) undef)) rfl (by show (_ : Value) = _; first | rfl | (rw [HC.out]; rw [← hB58]; first | rfl | simp) | (rw [HC.out]; simp [*])))
    · intro ac wx hb hd hs ho hp
      refine Or.inl ⟨rfl, ?_⟩
      have h56 : ac.tmps.getD 56 undef = .bool (ins) := ival_at hp 2 56 (by kernel_rfl) rfl
      rcases Bool.eq_false_or_eq_true (ins) with e | e
      · rw [e] at h56
        have E := Lib.hid e
        clear e
        have h58 : ac.tmps.getD 58 undef = cond (gon (true) (ins) true) (.bool (B58)) undef := ival_at hp 4 58 (by kernel_rfl) rfl
        rw [gon_mk rfl E.out, cond_true] at h58
        unfold Oper.wp
        go_simp
        exact Stepped.at rfl hd (Below.refl _ _) (FU_mk (.val (.bool ((ins && B58)))) rfl (by show (_ : Value) = _; first | (simp only [E.out, Bool.true_and]; done) | simp [E.out]))
      · rw [e] at h56
        have E := Lib.hid e
        clear e
        unfold Oper.wp
        go_simp
        exact Stepped.at rfl hd (Below.refl _ _) (FU_mk (.val (.bool ((ins && B58)))) rfl (by show (_ : Value) = _; first | (simp only [E.out, Bool.false_and]; done) | simp [E.out]))
    · intro ac wx hb hd hs ho hp
      refine Or.inl ⟨rfl, ?_⟩
      have h54 : ac.tmps.getD 54 undef = .bool (x) := ival_at hp 0 54 (by kernel_rfl) rfl
      have h59 : ac.tmps.getD 59 undef = .bool ((ins && B58)) := ival_at hp 5 59 (by kernel_rfl) rfl
      unfold Oper.wp
      go_simp
      exact Stepped.at rfl hd (Below.refl _ _) (FU_mk (.val (.bool ((x != (ins && B58))))) rfl (by show (_ : Value) = _; first | rfl | (first | rfl | simp) | (simp [*])))
    · intro ac wx hb hd hs ho hp
      refine Or.inl ⟨rfl, ?_⟩
      have h60 : ac.tmps.getD 60 undef = .bool ((x != (ins && B58))) := ival_at hp 6 60 (by kernel_rfl) rfl
      unfold Oper.wp
      go_simp
      exact Stepped.at rfl hd (Below.refl _ _) (FU_mk (.val (.bool ((x != (ins && B58))))) rfl (by show (_ : Value) = _; first | rfl | (first | rfl | simp) | (simp [*])))
    · intro ac wx hb hd hs ho hp
      have hg : ac.tmps.getD 61 undef = cond (true) (.bool ((x != (ins && B58)))) undef := ival_at hp 7 61 (by kernel_rfl) rfl
      rcases Bool.eq_false_or_eq_true (gon (true) ((x != (ins && B58))) false) with hc | hc
      rotate_left
      · exact Or.inr ⟨(wanted_gon (k := 7) (d := 61) rfl (by kernel_rfl) hg).trans hc, fun d hd => FU_mk (.val _) rfl (by rw [hc]; rfl)⟩
      refine Or.inl ⟨(wanted_gon (k := 7) (d := 61) rfl (by kernel_rfl) hg).trans hc, ?_⟩
      have HC := Lib.hid hc
      clear hg hc
      have h9 : ac.tmps.getD 9 undef = .bool (y) := (ho 9 (by kernel_rfl)).trans rfl
      unfold Oper.wp
      go_simp
      exact Stepped.at rfl hd (Below.refl _ _) (FU_mk (.val (cond (gon (true) ((x != (ins && B58))) false) (.bool (y)) undef)) rfl (by show (_ : Value) = _; first | rfl | (rw [HC.out]; first | rfl | simp) | (rw [HC.out]; simp [*])))
    · intro ac wx hb hd hs ho hp
      have hg : ac.tmps.getD 61 undef = cond (true) (.bool ((x != (ins && B58)))) undef := ival_at hp 7 61 (by kernel_rfl) rfl
      rcases Bool.eq_false_or_eq_true (gon (true) ((x != (ins && B58))) false) with hc | hc
      rotate_left
      · exact Or.inr ⟨(wanted_gon (k := 7) (d := 61) rfl (by kernel_rfl) hg).trans hc, fun d hd => FU_mk (.val _) rfl (by rw [hc]; rfl)⟩
      refine Or.inl ⟨(wanted_gon (k := 7) (d := 61) rfl (by kernel_rfl) hg).trans hc, ?_⟩
      have HC := Lib.hid hc
      clear hg hc
      have h7 : ac.tmps.getD 7 undef = .bool (x) := (ho 7 (by kernel_rfl)).trans rfl
      unfold Oper.wp
      go_simp
      exact Stepped.at rfl hd (Below.refl _ _) (FU_mk (.val (cond (gon (true) ((x != (ins && B58))) false) (.bool (x)) undef)) rfl (by show (_ : Value) = _; first | rfl | (rw [HC.out]; first | rfl | simp) | (rw [HC.out]; simp [*])))
    · intro ac wx hb hd hs ho hp
      have hg : ac.tmps.getD 61 undef = cond (true) (.bool ((x != (ins && B58)))) undef := ival_at hp 7 61 (by kernel_rfl) rfl
      rcases Bool.eq_false_or_eq_true (gon (true) ((x != (ins && B58))) false) with hc | hc
      rotate_left
      · exact Or.inr ⟨(wanted_gon (k := 7) (d := 61) rfl (by kernel_rfl) hg).trans hc, fun d hd => FU_mk (.val _) rfl (by rw [hc]; rfl)⟩
      refine Or.inl ⟨(wanted_gon (k := 7) (d := 61) rfl (by kernel_rfl) hg).trans hc, ?_⟩
      have HC := Lib.hid hc
      clear hg hc
      have h62 : ac.tmps.getD 62 undef = cond (gon (true) ((x != (ins && B58))) false) (.bool (y)) undef := ival_at hp 8 62 (by kernel_rfl) rfl
      rw [HC.out, cond_true] at h62
      have h63 : ac.tmps.getD 63 undef = cond (gon (true) ((x != (ins && B58))) false) (.bool (x)) undef := ival_at hp 9 63 (by kernel_rfl) rfl
      rw [HC.out, cond_true] at h63
      unfold Oper.wp
      go_simp
      exact Stepped.at rfl hd (Below.refl _ _) (FU_mk (.val (cond (gon (true) ((x != (ins && B58))) false) (.bool ((y != x))) undef)) rfl (by show (_ : Value) = _; first | rfl | (rw [HC.out]; first | rfl | simp) | (rw [HC.out]; simp [*])))
    · intro ac wx hb hd hs ho hp
      refine Or.inl ⟨rfl, ?_⟩
      have h61 : ac.tmps.getD 61 undef = .bool ((x != (ins && B58))) := ival_at hp 7 61 (by kernel_rfl) rfl
      rcases Bool.eq_false_or_eq_true ((x != (ins && B58))) with e | e
      · rw [e] at h61
        have E := Lib.hid e
        clear e
        unfold Oper.wp
        go_simp
        exact Stepped.at rfl hd (Below.refl _ _) (FU_mk (.val (.bool (((x != (ins && B58)) || (y != x))))) rfl (by show (_ : Value) = _; first | (simp only [E.out, Bool.true_or]; done) | simp [E.out]))
      · rw [e] at h61
        have E := Lib.hid e
        clear e
        have h64 : ac.tmps.getD 64 undef = cond (gon (true) ((x != (ins && B58))) false) (.bool ((y != x))) undef := ival_at hp 10 64 (by kernel_rfl) rfl
        rw [gon_mk rfl E.out, cond_true] at h64
        unfold Oper.wp
        go_simp
        exact Stepped.at rfl hd (Below.refl _ _) (FU_mk (.val (.bool (((x != (ins && B58)) || (y != x))))) rfl (by show (_ : Value) = _; first | (simp only [E.out, Bool.false_or]; done) | simp [E.out]))
    · intro ac wx hb hd hs ho hp
      refine Or.inl ⟨rfl, ?_⟩
      have h65 : ac.tmps.getD 65 undef = .bool (((x != (ins && B58)) || (y != x))) := ival_at hp 11 65 (by kernel_rfl) rfl
      unfold Oper.wp
      go_simp
      exact Stepped.at rfl hd (Below.refl _ _) (FU_mk (.val (.bool (((x != (ins && B58)) || (y != x))))) rfl (by show (_ : Value) = _; first | rfl | (first | rfl | simp) | (simp [*])))
    · intro ac wx hb hd hs ho hp
      have hg : ac.tmps.getD 66 undef = cond (true) (.bool (((x != (ins && B58)) || (y != x)))) undef := ival_at hp 12 66 (by kernel_rfl) rfl
      rcases Bool.eq_false_or_eq_true (gon (true) (((x != (ins && B58)) || (y != x))) false) with hc | hc
      rotate_left
      · exact Or.inr ⟨(wanted_gon (k := 12) (d := 66) rfl (by kernel_rfl) hg).trans hc, fun d hd => FU_mk (.val _) rfl (by rw [hc]; rfl)⟩
      refine Or.inl ⟨(wanted_gon (k := 12) (d := 66) rfl (by kernel_rfl) hg).trans hc, ?_⟩
      have HC := Lib.hid hc
      clear hg hc
      have h7 : ac.tmps.getD 7 undef = .bool (x) := (ho 7 (by kernel_rfl)).trans rfl
      unfold Oper.wp
      go_simp
      exact Stepped.at rfl hd (Below.refl _ _) (FU_mk (.val (cond (gon (true) (((x != (ins && B58)) || (y != x))) false) (.bool (x)) undef)) rfl (by show (_ : Value) = _; first | rfl | (rw [HC.out]; first | rfl | simp) | (rw [HC.out]; simp [*])))
    · intro ac wx hb hd hs ho hp
      have hg : ac.tmps.getD 66 undef = cond (true) (.bool (((x != (ins && B58)) || (y != x)))) undef := ival_at hp 12 66 (by kernel_rfl) rfl
      rcases Bool.eq_false_or_eq_true (gon (true) (((x != (ins && B58)) || (y != x))) false) with hc | hc
      rotate_left
      · exact Or.inr ⟨(wanted_gon (k := 12) (d := 66) rfl (by kernel_rfl) hg).trans hc, fun d hd => FU_mk (.val _) rfl (by rw [hc]; rfl)⟩
      refine Or.inl ⟨(wanted_gon (k := 12) (d := 66) rfl (by kernel_rfl) hg).trans hc, ?_⟩
      have HC := Lib.hid hc
      clear hg hc
      have h67 : ac.tmps.getD 67 undef = cond (gon (true) (((x != (ins && B58)) || (y != x))) false) (.bool (x)) undef := ival_at hp 13 67 (by kernel_rfl) rfl
      rw [HC.out, cond_true] at h67
      unfold Oper.wp
      go_simp
      exact Stepped.at rfl hd (Below.refl _ _) (FU_mk (.val (cond (gon (true) (((x != (ins && B58)) || (y != x))) false) (.bool (!(x))) undef)) rfl (by show (_ : Value) = _; first | rfl | (rw [HC.out]; first | rfl | simp) | (rw [HC.out]; simp [*])))
    · intro ac wx hb hd hs ho hp
      have hg : ac.tmps.getD 66 undef = cond (true) (.bool (((x != (ins && B58)) || (y != x)))) undef := ival_at hp 12 66 (by kernel_rfl) rfl
      rcases Bool.eq_false_or_eq_true (gon (true) (((x != (ins && B58)) || (y != x))) false) with hc | hc
      rotate_left
      · exact Or.inr ⟨(wanted_gon (k := 12) (d := 66) rfl (by kernel_rfl) hg).trans hc, fun d hd => FU_mk (.val _) rfl (by rw [hc]; rfl)⟩
      refine Or.inl ⟨(wanted_gon (k := 12) (d := 66) rfl (by kernel_rfl) hg).trans hc, ?_⟩
      have HC := Lib.hid hc
      clear hg hc
      have h68 : ac.tmps.getD 68 undef = cond (gon (true) (((x != (ins && B58)) || (y != x))) false) (.bool (!(x))) undef := ival_at hp 14 68 (by kernel_rfl) rfl
      rw [HC.out, cond_true] at h68
      unfold Oper.wp
      go_simp
      exact Stepped.at rfl hd (Below.refl _ _) (FU_mk (.val (cond (gon (true) (((x != (ins && B58)) || (y != x))) false) (.bool (!(x))) undef)) rfl (by show (_ : Value) = _; first | rfl | (rw [HC.out]; first | rfl | simp) | (rw [HC.out]; simp [*])))
    · intro ac wx hb hd hs ho hp
      have hg : ac.tmps.getD 69 undef = cond (gon (true) (((x != (ins && B58)) || (y != x))) false) (.bool (!(x))) undef := ival_at hp 15 69 (by kernel_rfl) rfl
      rcases Bool.eq_false_or_eq_true (gon (gon (true) (((x != (ins && B58)) || (y != x))) false) (!(x)) true) with hc | hc
      rotate_left
      · exact Or.inr ⟨(wanted_gon (k := 15) (d := 69) rfl (by kernel_rfl) hg).trans hc, fun d hd => FU_mk (.val _) rfl (by rw [hc]; rfl)⟩
      refine Or.inl ⟨(wanted_gon (k := 15) (d := 69) rfl (by kernel_rfl) hg).trans hc, ?_⟩
      have HC := Lib.hid hc
      clear hg hc
      have h6 : ac.tmps.getD 6 undef = .int .i64 (q) := (ho 6 (by kernel_rfl)).trans rfl
      unfold Oper.wp
      go_simp
      exact Stepped.at rfl hd (Below.refl _ _) (FU_mk (.val (cond (gon (gon (true) (((x != (ins && B58)) || (y != x))) false) (!(x)) true) (.int .i64 (q)) undef)) rfl (by show (_ : Value) = _; first | rfl | (rw [HC.out]; first | rfl | simp) | (rw [HC.out]; simp [*])))
    · intro ac wx hb hd hs ho hp
      have hg : ac.tmps.getD 69 undef = cond (gon (true) (((x != (ins && B58)) || (y != x))) false) (.bool (!(x))) undef := ival_at hp 15 69 (by kernel_rfl) rfl
      rcases Bool.eq_false_or_eq_true (gon (gon (true) (((x != (ins && B58)) || (y != x))) false) (!(x)) true) with hc | hc
      rotate_left
      · exact Or.inr ⟨(wanted_gon (k := 15) (d := 69) rfl (by kernel_rfl) hg).trans hc, fun d hd => FU_mk (.val _) rfl (by rw [hc]; rfl)⟩
      refine Or.inl ⟨(wanted_gon (k := 15) (d := 69) rfl (by kernel_rfl) hg).trans hc, ?_⟩
      have HC := Lib.hid hc
      clear hg hc
      have h70 : ac.tmps.getD 70 undef = cond (gon (gon (true) (((x != (ins && B58)) || (y != x))) false) (!(x)) true) (.int .i64 (q)) undef := ival_at hp 16 70 (by kernel_rfl) rfl
      rw [HC.out, cond_true] at h70
      unfold Oper.wp
      go_simp
      exact Stepped.at rfl hd (Below.refl _ _) (FU_mk (.val (cond (gon (gon (true) (((x != (ins && B58)) || (y != x))) false) (!(x)) true) (.bool (B71)) undef)) rfl (by show (_ : Value) = _; first | rfl | (rw [HC.out]; rw [← hB71]; first | rfl | simp) | (rw [HC.out]; simp [*])))
    · intro ac wx hb hd hs ho hp
      have hg : ac.tmps.getD 69 undef = cond (gon (true) (((x != (ins && B58)) || (y != x))) false) (.bool (!(x))) undef := ival_at hp 15 69 (by kernel_rfl) rfl
      rcases Bool.eq_false_or_eq_true (gon (gon (true) (((x != (ins && B58)) || (y != x))) false) (!(x)) true) with hc | hc
      rotate_left
      · exact Or.inr ⟨(wanted_gon (k := 15) (d := 69) rfl (by kernel_rfl) hg).trans hc, fun d hd => FU_mk (.val _) rfl (by rw [hc]; rfl)⟩
      refine Or.inl ⟨(wanted_gon (k := 15) (d := 69) rfl (by kernel_rfl) hg).trans hc, ?_⟩
      have HC := Lib.hid hc
      clear hg hc
      have h71 : ac.tmps.getD 71 undef = cond (gon (gon (true) (((x != (ins && B58)) || (y != x))) false) (!(x)) true) (.bool (B71)) undef := ival_at hp 17 71 (by kernel_rfl) rfl
      rw [HC.out, cond_true] at h71
      unfold Oper.wp
      go_simp
      exact Stepped.at rfl hd (Below.refl _ _) (FU_mk (.val (cond (gon (gon (true) (((x != (ins && B58)) || (y != x))) false) (!(x)) true) (.bool (B71)) undef)) rfl (by show (_ : Value) = _; first | rfl | (rw [HC.out]; first | rfl | simp) | (rw [HC.out]; simp [*])))
    · intro ac wx hb hd hs ho hp
      have hg : ac.tmps.getD 72 undef = cond (gon (gon (true) (((x != (ins && B58)) || (y != x))) false) (!(x)) true) (.bool (B71)) undef := ival_at hp 18 72 (by kernel_rfl) rfl
      rcases Bool.eq_false_or_eq_true (gon (gon (gon (true) (((x != (ins && B58)) || (y != x))) false) (!(x)) true) (B71) false) with hc | hc
      rotate_left
      · exact Or.inr ⟨(wanted_gon (k := 18) (d := 72) rfl (by kernel_rfl) hg).trans hc, fun d hd => FU_mk (.val _) rfl (by rw [hc]; rfl)⟩
      refine Or.inl ⟨(wanted_gon (k := 18) (d := 72) rfl (by kernel_rfl) hg).trans hc, ?_⟩
      have HC := Lib.hid hc
      clear hg hc
      have h8 : ac.tmps.getD 8 undef = .int .i64 (r) := (ho 8 (by kernel_rfl)).trans rfl
      unfold Oper.wp
      go_simp
      exact Stepped.at rfl hd (Below.refl _ _) (FU_mk (.val (cond (gon (gon (gon (true) (((x != (ins && B58)) || (y != x))) false) (!(x)) true) (B71) false) (.int .i64 (r)) undef)) rfl (by show (_ : Value) = _; first | rfl | (rw [HC.out]; first | rfl | simp) | (rw [HC.out]; simp [*])))
    · intro ac wx hb hd hs ho hp
      have hg : ac.tmps.getD 72 undef = cond (gon (gon (true) (((x != (ins && B58)) || (y != x))) false) (!(x)) true) (.bool (B71)) undef := ival_at hp 18 72 (by kernel_rfl) rfl
      rcases Bool.eq_false_or_eq_true (gon (gon (gon (true) (((x != (ins && B58)) || (y != x))) false) (!(x)) true) (B71) false) with hc | hc
      rotate_left
      · exact Or.inr ⟨(wanted_gon (k := 18) (d := 72) rfl (by kernel_rfl) hg).trans hc, fun d hd => FU_mk (.val _) rfl (by rw [hc]; rfl)⟩
      refine Or.inl ⟨(wanted_gon (k := 18) (d := 72) rfl (by kernel_rfl) hg).trans hc, ?_⟩
      have HC := Lib.hid hc
      clear hg hc
      have h73 : ac.tmps.getD 73 undef = cond (gon (gon (gon (true) (((x != (ins && B58)) || (y != x))) false) (!(x)) true) (B71) false) (.int .i64 (r)) undef := ival_at hp 19 73 (by kernel_rfl) rfl
      rw [HC.out, cond_true] at h73
      unfold Oper.wp
      go_simp
      exact Stepped.at rfl hd (Below.refl _ _) (FU_mk (.val (cond (gon (gon (gon (true) (((x != (ins && B58)) || (y != x))) false) (!(x)) true) (B71) false) (.bool (B74)) undef)) rfl (by show (_ : Value) = _; first | rfl | (rw [HC.out]; rw [← hB74]; first | rfl | simp) | (rw [HC.out]; simp [*])))
    · intro ac wx hb hd hs ho hp
      have hg : ac.tmps.getD 69 undef = cond (gon (true) (((x != (ins && B58)) || (y != x))) false) (.bool (!(x))) undef := ival_at hp 15 69 (by kernel_rfl) rfl
      rcases Bool.eq_false_or_eq_true (gon (gon (true) (((x != (ins && B58)) || (y != x))) false) (!(x)) true) with hc | hc
      rotate_left
      · exact Or.inr ⟨(wanted_gon (k := 15) (d := 69) rfl (by kernel_rfl) hg).trans hc, fun d hd => FU_mk (.val _) rfl (by rw [hc]; rfl)⟩
      refine Or.inl ⟨(wanted_gon (k := 15) (d := 69) rfl (by kernel_rfl) hg).trans hc, ?_⟩
      have HC := Lib.hid hc
      clear hg hc
      have h72 : ac.tmps.getD 72 undef = cond (gon (gon (true) (((x != (ins && B58)) || (y != x))) false) (!(x)) true) (.bool (B71)) undef := ival_at hp 18 72 (by kernel_rfl) rfl
      rw [HC.out, cond_true] at h72
      rcases Bool.eq_false_or_eq_true (B71) with e | e
      · rw [e] at h72
        have E := Lib.hid e
        clear e
        unfold Oper.wp
        go_simp
        exact Stepped.at rfl hd (Below.refl _ _) (FU_mk (.val (cond (gon (gon (true) (((x != (ins && B58)) || (y != x))) false) (!(x)) true) (.bool ((B71 || B74))) undef)) rfl (by show (_ : Value) = _; rw [HC.out, cond_true]; first | (simp only [E.out, Bool.true_or]; done) | simp [E.out]))
      · rw [e] at h72
        have E := Lib.hid e
        clear e
        have h74 : ac.tmps.getD 74 undef = cond (gon (gon (gon (true) (((x != (ins && B58)) || (y != x))) false) (!(x)) true) (B71) false) (.bool (B74)) undef := ival_at hp 20 74 (by kernel_rfl) rfl
        rw [gon_mk HC.out E.out, cond_true] at h74
        unfold Oper.wp
        go_simp
        exact Stepped.at rfl hd (Below.refl _ _) (FU_mk (.val (cond (gon (gon (true) (((x != (ins && B58)) || (y != x))) false) (!(x)) true) (.bool ((B71 || B74))) undef)) rfl (by show (_ : Value) = _; rw [HC.out, cond_true]; first | (simp only [E.out, Bool.false_or]; done) | simp [E.out]))
    · intro ac wx hb hd hs ho hp
      have hg : ac.tmps.getD 66 undef = cond (true) (.bool (((x != (ins && B58)) || (y != x)))) undef := ival_at hp 12 66 (by kernel_rfl) rfl
      rcases Bool.eq_false_or_eq_true (gon (true) (((x != (ins && B58)) || (y != x))) false) with hc | hc
      rotate_left
      · exact Or.inr ⟨(wanted_gon (k := 12) (d := 66) rfl (by kernel_rfl) hg).trans hc, fun d hd => FU_mk (.val _) rfl (by rw [hc]; rfl)⟩
      refine Or.inl ⟨(wanted_gon (k := 12) (d := 66) rfl (by kernel_rfl) hg).trans hc, ?_⟩
      have HC := Lib.hid hc
      clear hg hc
      have h69 : ac.tmps.getD 69 undef = cond (gon (true) (((x != (ins && B58)) || (y != x))) false) (.bool (!(x))) undef := ival_at hp 15 69 (by kernel_rfl) rfl
      rw [HC.out, cond_true] at h69
      rcases Bool.eq_false_or_eq_true (!(x)) with e | e
      · rw [e] at h69
        have E := Lib.hid e
        clear e
        have h75 : ac.tmps.getD 75 undef = cond (gon (gon (true) (((x != (ins && B58)) || (y != x))) false) (!(x)) true) (.bool ((B71 || B74))) undef := ival_at hp 21 75 (by kernel_rfl) rfl
        rw [gon_mk HC.out E.out, cond_true] at h75
        unfold Oper.wp
        go_simp
        exact Stepped.at rfl hd (Below.refl _ _) (FU_mk (.val (cond (gon (true) (((x != (ins && B58)) || (y != x))) false) (.bool ((!(x) && (B71 || B74)))) undef)) rfl (by show (_ : Value) = _; rw [HC.out, cond_true]; first | (simp only [E.out, Bool.true_and]; done) | simp [E.out]))
      · rw [e] at h69
        have E := Lib.hid e
        clear e
        unfold Oper.wp
        go_simp
        exact Stepped.at rfl hd (Below.refl _ _) (FU_mk (.val (cond (gon (true) (((x != (ins && B58)) || (y != x))) false) (.bool ((!(x) && (B71 || B74)))) undef)) rfl (by show (_ : Value) = _; rw [HC.out, cond_true]; first | (simp only [E.out, Bool.false_and]; done) | simp [E.out]))
    · intro ac wx hb hd hs ho hp
      refine Or.inl ⟨rfl, ?_⟩
      have h66 : ac.tmps.getD 66 undef = .bool (((x != (ins && B58)) || (y != x))) := ival_at hp 12 66 (by kernel_rfl) rfl
      rcases Bool.eq_false_or_eq_true (((x != (ins && B58)) || (y != x))) with e | e
      · rw [e] at h66
        have E := Lib.hid e
        clear e
        unfold Oper.wp
        go_simp
        exact Stepped.at rfl hd (Below.refl _ _) (FU_mk (.val (.bool ((((x != (ins && B58)) || (y != x)) || (!(x) && (B71 || B74)))))) rfl (by show (_ : Value) = _; first | (simp only [E.out, Bool.true_or]; done) | simp [E.out]))
      · rw [e] at h66
        have E := Lib.hid e
        clear e
        have h76 : ac.tmps.getD 76 undef = cond (gon (true) (((x != (ins && B58)) || (y != x))) false) (.bool ((!(x) && (B71 || B74)))) undef := ival_at hp 22 76 (by kernel_rfl) rfl
        rw [gon_mk rfl E.out, cond_true] at h76
        unfold Oper.wp
        go_simp
        exact Stepped.at rfl hd (Below.refl _ _) (FU_mk (.val (.bool ((((x != (ins && B58)) || (y != x)) || (!(x) && (B71 || B74)))))) rfl (by show (_ : Value) = _; first | (simp only [E.out, Bool.false_or]; done) | simp [E.out]))
  intro ac wx hJ
  have f77 : ac.tmps.getD 77 undef = .bool ((((x != (ins && B58)) || (y != x)) || (!(x) && (B71 || B74)))) := FU_at (.val (.bool ((((x != (ins && B58)) || (y != x)) || (!(x) && (B71 || B74)))))) rfl (hJ.at_end 23 77 (by kernel_rfl))
  have e77 : ((((x != (ins && B58)) || (y != x)) || (!(x) && (B71 || B74)))) = false := by
    subst hB58 hB71 hB74
    exact M77.out
  rw [e77] at f77
  clear e77 M77
  have BX := Lib.hid (BW.out.trans (hJ.below.mono BW.out.size))
  clear BW
  have BW := BX
  clear BX
  obtain ⟨u54, f54⟩ : ∃ u, ac.tmps.getD 54 undef = u := ⟨_, rfl⟩
  obtain ⟨u55, f55⟩ : ∃ u, ac.tmps.getD 55 undef = u := ⟨_, rfl⟩
  obtain ⟨u56, f56⟩ : ∃ u, ac.tmps.getD 56 undef = u := ⟨_, rfl⟩
  obtain ⟨u57, f57⟩ : ∃ u, ac.tmps.getD 57 undef = u := ⟨_, rfl⟩
  obtain ⟨u58, f58⟩ : ∃ u, ac.tmps.getD 58 undef = u := ⟨_, rfl⟩
  obtain ⟨u59, f59⟩ : ∃ u, ac.tmps.getD 59 undef = u := ⟨_, rfl⟩
  obtain ⟨u60, f60⟩ : ∃ u, ac.tmps.getD 60 undef = u := ⟨_, rfl⟩
  obtain ⟨u61, f61⟩ : ∃ u, ac.tmps.getD 61 undef = u := ⟨_, rfl⟩
  obtain ⟨u62, f62⟩ : ∃ u, ac.tmps.getD 62 undef = u := ⟨_, rfl⟩
  obtain ⟨u63, f63⟩ : ∃ u, ac.tmps.getD 63 undef = u := ⟨_, rfl⟩
  obtain ⟨u64, f64⟩ : ∃ u, ac.tmps.getD 64 undef = u := ⟨_, rfl⟩
  obtain ⟨u65, f65⟩ : ∃ u, ac.tmps.getD 65 undef = u := ⟨_, rfl⟩
  obtain ⟨u66, f66⟩ : ∃ u, ac.tmps.getD 66 undef = u := ⟨_, rfl⟩
  obtain ⟨u67, f67⟩ : ∃ u, ac.tmps.getD 67 undef = u := ⟨_, rfl⟩
  obtain ⟨u68, f68⟩ : ∃ u, ac.tmps.getD 68 undef = u := ⟨_, rfl⟩
  obtain ⟨u69, f69⟩ : ∃ u, ac.tmps.getD 69 undef = u := ⟨_, rfl⟩
  obtain ⟨u70, f70⟩ : ∃ u, ac.tmps.getD 70 undef = u := ⟨_, rfl⟩
  obtain ⟨u71, f71⟩ : ∃ u, ac.tmps.getD 71 undef = u := ⟨_, rfl⟩
  obtain ⟨u72, f72⟩ : ∃ u, ac.tmps.getD 72 undef = u := ⟨_, rfl⟩
  obtain ⟨u73, f73⟩ : ∃ u, ac.tmps.getD 73 undef = u := ⟨_, rfl⟩
  obtain ⟨u74, f74⟩ : ∃ u, ac.tmps.getD 74 undef = u := ⟨_, rfl⟩
  obtain ⟨u75, f75⟩ : ∃ u, ac.tmps.getD 75 undef = u := ⟨_, rfl⟩
  obtain ⟨u76, f76⟩ : ∃ u, ac.tmps.getD 76 undef = u := ⟨_, rfl⟩
  obtain ⟨T, D⟩ := ac
  obtain rfl : D = [] := hJ.defers
  have hE := slots_merge [false, false, false, false, false, false, false, false, false, false, false, false, false, false, false, false, false, false, false, false, false, false, false, false, false, false, false, false, false, false, false, false, false, false, false, false, false, false, false, false, false, false, false, false, false, false, false, false, false, false, false, false, false, false, true, true, true, true, true, true, true, true, true, true, true, true, true, true, true, true, true, true, true, true, true, true, true, true, false, false, false, false, false, false, false, false, false, false, false, false, false, false, false, false, false, false, false, false, false, false, false, false, false, false, false, false, false, false, false, false, false, false, false, false, false, false, false, false, false, false, false, false, false, false, false, false, false, false, false, false, false, false, false, false, false, false, false, false, false, false, false, false, false, false, false, false, false, false, false, false, false, false, false, false, false, false, false, false, false, false, false, false, false, false, false, false, false, false, false, false, false, false, false, false, false, false, false, false, false, false, false, false, false, false, false, false, false, false, false, false, false, false, false, false, false, false, false, false, false, false, false, false, false, false, false, false, false, false, false, false, false, false, false, false, false, false, false, false, false, false, false, false, false, false, false, false, false, false, false, false, false, false, false, false, false, false, false, false, false, false, false, false, false, false, false, false, false, false, false, false, false, false, false, false, false, false, false, false, false, false, false, false, false, false, false, false, false, false, false, false, false, false, false, false, false, false] 276 hJ.tmps rfl (by kernel_rfl) hJ.outer
  simp only [mergeFrom, Nat.zero_add, Nat.reduceAdd, f54, f55, f56, f57, f58, f59, f60, f61, f62, f63, f64, f65, f66, f67, f68, f69, f70, f71, f72, f73, f74, f75, f76, f77] at hE
  clear hJ f54 f55 f56 f57 f58 f59 f60 f61 f62 f63 f64 f65 f66 f67 f68 f69 f70 f71 f72 f73 f74 f75 f76 f77 hB58 hB71 hB74
  subst hE
  refine HK2.out _ _ ?_
  clear HK2
  go_wp2_with fail
  refine HK.out _ _ ?_
  clear HK
  refine wp_seq_k fun K hK => ?_
  have HK := Lib.hid hK
  clear hK
  refine wp_seq_k fun K hK => ?_
  have HK2 := Lib.hid hK
  clear hK
  obtain ⟨B86, hB86⟩ : ∃ x : Bool, (((IntKind.i64.wrap ((IntKind.i64.wrap ((q) * (b))) + (r)) : Int)) != (a)) = x := ⟨_, rfl⟩
  obtain ⟨B89, hB89⟩ : ∃ x : Bool, (decide (((r : Int)) < (0))) = x := ⟨_, rfl⟩
  obtain ⟨B92, hB92⟩ : ∃ x : Bool, (decide (((a : Int)) ≥ (0))) = x := ⟨_, rfl⟩
  obtain ⟨B97, hB97⟩ : ∃ x : Bool, (decide (((r : Int)) > (0))) = x := ⟨_, rfl⟩
  obtain ⟨B100, hB100⟩ : ∃ x : Bool, (decide (((a : Int)) ≤ (0))) = x := ⟨_, rfl⟩
  obtain ⟨B109, hB109⟩ : ∃ x : Bool, (decide (((r : Int)) ≥ (max (b) (IntKind.i64.wrap (-(b)))))) = x := ⟨_, rfl⟩
  obtain ⟨B118, hB118⟩ : ∃ x : Bool, (decide (((IntKind.i64.wrap (-(r)) : Int)) ≥ (max (b) (IntKind.i64.wrap (-(b)))))) = x := ⟨_, rfl⟩
  refine wp_region_fix (FU (bdDescs8 a b q r x B86 B89 B92 B97 B100 B109 B118)) (FU_grow _) (by kernel_rfl) (steps_fix ?_) ?_
  · refine ⟨?_, ?_, ?_, ?_, ?_, ?_, ?_, ?_, ?_, ?_, ?_, ?_, ?_, ?_, ?_, ?_, ?_, ?_, ?_, ?_, ?_, ?_, ?_, ?_, ?_, ?_, ?_, ?_, ?_, ?_, ?_, ?_, ?_, ?_, ?_, ?_, ?_, ?_, ?_, ?_, ?_, ?_, ?_, trivial⟩
    · intro ac wx hb hd hs ho hp
      refine Or.inl ⟨rfl, ?_⟩
      have h7 : ac.tmps.getD 7 undef = .bool (x) := (ho 7 (by kernel_rfl)).trans rfl
      unfold Oper.wp
      go_simp
      exact Stepped.at rfl hd (Below.refl _ _) (FU_mk (.val (.bool (x))) rfl (by show (_ : Value) = _; first | rfl | (first | rfl | simp) | (simp [*])))
    · intro ac wx hb hd hs ho hp
      refine Or.inl ⟨rfl, ?_⟩
      have h78 : ac.tmps.getD 78 undef = .bool (x) := ival_at hp 0 78 (by kernel_rfl) rfl
      unfold Oper.wp
      go_simp
      exact Stepped.at rfl hd (Below.refl _ _) (FU_mk (.val (.bool (x))) rfl (by show (_ : Value) = _; first | rfl | (first | rfl | simp) | (simp [*])))
    · intro ac wx hb hd hs ho hp
      have hg : ac.tmps.getD 79 undef = cond (true) (.bool (x)) undef := ival_at hp 1 79 (by kernel_rfl) rfl
      rcases Bool.eq_false_or_eq_true (gon (true) (x) true) with hc | hc
      rotate_left
      · exact Or.inr ⟨(wanted_gon (k := 1) (d := 79) rfl (by kernel_rfl) hg).trans hc, fun d hd => FU_mk (.val _) rfl (by rw [hc]; rfl)⟩
      refine Or.inl ⟨(wanted_gon (k := 1) (d := 79) rfl (by kernel_rfl) hg).trans hc, ?_⟩
      have HC := Lib.hid hc
      clear hg hc
      have h6 : ac.tmps.getD 6 undef = .int .i64 (q) := (ho 6 (by kernel_rfl)).trans rfl
      unfold Oper.wp
      go_simp
      exact Stepped.at rfl hd (Below.refl _ _) (FU_mk (.val (cond (gon (true) (x) true) (.int .i64 (q)) undef)) rfl (by show (_ : Value) = _; first | rfl | (rw [HC.out]; first | rfl | simp) | (rw [HC.out]; simp [*])))
    · intro ac wx hb hd hs ho hp
      have hg : ac.tmps.getD 79 undef = cond (true) (.bool (x)) undef := ival_at hp 1 79 (by kernel_rfl) rfl
      rcases Bool.eq_false_or_eq_true (gon (true) (x) true) with hc | hc
      rotate_left
      · exact Or.inr ⟨(wanted_gon (k := 1) (d := 79) rfl (by kernel_rfl) hg).trans hc, fun d hd => FU_mk (.val _) rfl (by rw [hc]; rfl)⟩
      refine Or.inl ⟨(wanted_gon (k := 1) (d := 79) rfl (by kernel_rfl) hg).trans hc, ?_⟩
      have HC := Lib.hid hc
      clear hg hc
      have h1 : ac.tmps.getD 1 undef = .int .i64 (b) := (ho 1 (by kernel_rfl)).trans rfl
      unfold Oper.wp
      go_simp
      exact Stepped.at rfl hd (Below.refl _ _) (FU_mk (.val (cond (gon (true) (x) true) (.int .i64 (b)) undef)) rfl (by show (_ : Value) = _; first | rfl | (rw [HC.out]; first | rfl | simp) | (rw [HC.out]; simp [*])))
    · intro ac wx hb hd hs ho hp
      have hg : ac.tmps.getD 79 undef = cond (true) (.bool (x)) undef := ival_at hp 1 79 (by kernel_rfl) rfl
      rcases Bool.eq_false_or_eq_true (gon (true) (x) true) with hc | hc
      rotate_left
      · exact Or.inr ⟨(wanted_gon (k := 1) (d := 79) rfl (by kernel_rfl) hg).trans hc, fun d hd => FU_mk (.val _) rfl (by rw [hc]; rfl)⟩
      refine Or.inl ⟨(wanted_gon (k := 1) (d := 79) rfl (by kernel_rfl) hg).trans hc, ?_⟩
      have HC := Lib.hid hc
      clear hg hc
      have h80 : ac.tmps.getD 80 undef = cond (gon (true) (x) true) (.int .i64 (q)) undef := ival_at hp 2 80 (by kernel_rfl) rfl
      rw [HC.out, cond_true] at h80
      have h81 : ac.tmps.getD 81 undef = cond (gon (true) (x) true) (.int .i64 (b)) undef := ival_at hp 3 81 (by kernel_rfl) rfl
      rw [HC.out, cond_true] at h81
      unfold Oper.wp
      go_simp
      exact Stepped.at rfl hd (Below.refl _ _) (FU_mk (.val (cond (gon (true) (x) true) (.int .i64 (IntKind.i64.wrap ((q) * (b)))) undef)) rfl (by show (_ : Value) = _; first | rfl | (rw [HC.out]; first | rfl | simp) | (rw [HC.out]; simp [*])))
    · intro ac wx hb hd hs ho hp
      have hg : ac.tmps.getD 79 undef = cond (true) (.bool (x)) undef := ival_at hp 1 79 (by kernel_rfl) rfl
      rcases Bool.eq_false_or_eq_true (gon (true) (x) true) with hc | hc
      rotate_left
      · exact Or.inr ⟨(wanted_gon (k := 1) (d := 79) rfl (by kernel_rfl) hg).trans hc, fun d hd => FU_mk (.val _) rfl (by rw [hc]; rfl)⟩
      refine Or.inl ⟨(wanted_gon (k := 1) (d := 79) rfl (by kernel_rfl) hg).trans hc, ?_⟩
      have HC := Lib.hid hc
      clear hg hc
      have h8 : ac.tmps.getD 8 undef = .int .i64 (r) := (ho 8 (by kernel_rfl)).trans rfl
      unfold Oper.wp
      go_simp
      exact Stepped.at rfl hd (Below.refl _ _) (FU_mk (.val (cond (gon (true) (x) true) (.int .i64 (r)) undef)) rfl (by show (_ : Value) = _; first | rfl | (rw [HC.out]; first | rfl | simp) | (rw [HC.out]; simp [*])))
    · intro ac wx hb hd hs ho hp
      have hg : ac.tmps.getD 79 undef = cond (true) (.bool (x)) undef := ival_at hp 1 79 (by kernel_rfl) rfl
      rcases Bool.eq_false_or_eq_true (gon (true) (x) true) with hc | hc
      rotate_left
      · exact Or.inr ⟨(wanted_gon (k := 1) (d := 79) rfl (by kernel_rfl) hg).trans hc, fun d hd => FU_mk (.val _) rfl (by rw [hc]; rfl)⟩
      refine Or.inl ⟨(wanted_gon (k := 1) (d := 79) rfl (by kernel_rfl) hg).trans hc, ?_⟩
      have HC := Lib.hid hc
      clear hg hc
      have h82 : ac.tmps.getD 82 undef = cond (gon (true) (x) true) (.int .i64 (IntKind.i64.wrap ((q) * (b)))) undef := ival_at hp 4 82 (by kernel_rfl) rfl
      rw [HC.out, cond_true] at h82
      have h83 : ac.tmps.getD 83 undef = cond (gon (true) (x) true) (.int .i64 (r)) undef := ival_at hp 5 83 (by kernel_rfl) rfl
      rw [HC.out, cond_true] at h83
      unfold Oper.wp
      go_simp
      exact Stepped.at rfl hd (Below.refl _ _) (FU_mk (.val (cond (gon (true) (x) true) (.int .i64 (IntKind.i64.wrap ((IntKind.i64.wrap ((q) * (b))) + (r)))) undef)) rfl (by show (_ : Value) = _; first | rfl | (rw [HC.out]; first | rfl | simp) | (rw [HC.out]; simp [*])))
    · intro ac wx hb hd hs ho hp
      have hg : ac.tmps.getD 79 undef = cond (true) (.bool (x)) undef := ival_at hp 1 79 (by kernel_rfl) rfl
      rcases Bool.eq_false_or_eq_true (gon (true) (x) true) with hc | hc
      rotate_left
      · exact Or.inr ⟨(wanted_gon (k := 1) (d := 79) rfl (by kernel_rfl) hg).trans hc, fun d hd => FU_mk (.val _) rfl (by rw [hc]; rfl)⟩
      refine Or.inl ⟨(wanted_gon (k := 1) (d := 79) rfl (by kernel_rfl) hg).trans hc, ?_⟩
      have HC := Lib.hid hc
      clear hg hc
      have h0 : ac.tmps.getD 0 undef = .int .i64 (a) := (ho 0 (by kernel_rfl)).trans rfl
      unfold Oper.wp
      go_simp
      exact Stepped.at rfl hd (Below.refl _ _) (FU_mk (.val (cond (gon (true) (x) true) (.int .i64 (a)) undef)) rfl (by show (_ : Value) = _; first | rfl | (rw [HC.out]; first | rfl | simp) | (rw [HC.out]; simp [*])))
    · intro ac wx hb hd hs ho hp
      have hg : ac.tmps.getD 79 undef = cond (true) (.bool (x)) undef := ival_at hp 1 79 (by kernel_rfl) rfl
      rcases Bool.eq_false_or_eq_true (gon (true) (x) true) with hc | hc
      rotate_left
      · exact Or.inr ⟨(wanted_gon (k := 1) (d := 79) rfl (by kernel_rfl) hg).trans hc, fun d hd => FU_mk (.val _) rfl (by rw [hc]; rfl)⟩
      refine Or.inl ⟨(wanted_gon (k := 1) (d := 79) rfl (by kernel_rfl) hg).trans hc, ?_⟩
      have HC := Lib.hid hc
      clear hg hc
      have h84 : ac.tmps.getD 84 undef = cond (gon (true) (x) true) (.int .i64 (IntKind.i64.wrap ((IntKind.i64.wrap ((q) * (b))) + (r)))) undef := ival_at hp 6 84 (by kernel_rfl) rfl
      rw [HC.out, cond_true] at h84
      have h85 : ac.tmps.getD 85 undef = cond (gon (true) (x) true) (.int .i64 (a)) undef := ival_at hp 7 85 (by kernel_rfl) rfl
      rw [HC.out, cond_true] at h85
      unfold Oper.wp
      go_simp
      exact Stepped.at rfl hd (Below.refl _ _) (FU_mk (.val (cond (gon (true) (x) true) (.bool (B86)) undef)) rfl (by show (_ : Value) = _; first | rfl | (rw [HC.out]; rw [← hB86]; first | rfl | simp) | (rw [HC.out]; simp [*])))
    · intro ac wx hb hd hs ho hp
      have hg : ac.tmps.getD 79 undef = cond (true) (.bool (x)) undef := ival_at hp 1 79 (by kernel_rfl) rfl
      rcases Bool.eq_false_or_eq_true (gon (true) (x) true) with hc | hc
      rotate_left
      · exact Or.inr ⟨(wanted_gon (k := 1) (d := 79) rfl (by kernel_rfl) hg).trans hc, fun d hd => FU_mk (.val _) rfl (by rw [hc]; rfl)⟩
      refine Or.inl ⟨(wanted_gon (k := 1) (d := 79) rfl (by kernel_rfl) hg).trans hc, ?_⟩
      have HC := Lib.hid hc
      clear hg hc
      have h86 : ac.tmps.getD 86 undef = cond (gon (true) (x) true) (.bool (B86)) undef := ival_at hp 8 86 (by kernel_rfl) rfl
      rw [HC.out, cond_true] at h86
      unfold Oper.wp
      go_simp
      exact Stepped.at rfl hd (Below.refl _ _) (FU_mk (.val (cond (gon (true) (x) true) (.bool (B86)) undef)) rfl (by show (_ : Value) = _; first | rfl | (rw [HC.out]; first | rfl | simp) | (rw [HC.out]; simp [*])))
    · intro ac wx hb hd hs ho hp
      have hg : ac.tmps.getD 87 undef = cond (gon (true) (x) true) (.bool (B86)) undef := ival_at hp 9 87 (by kernel_rfl) rfl
      rcases Bool.eq_false_or_eq_true (gon (gon (true) (x) true) (B86) false) with hc | hc
      rotate_left
      · exact Or.inr ⟨(wanted_gon (k := 9) (d := 87) rfl (by kernel_rfl) hg).trans hc, fun d hd => FU_mk (.val _) rfl (by rw [hc]; rfl)⟩
      refine Or.inl ⟨(wanted_gon (k := 9) (d := 87) rfl (by kernel_rfl) hg).trans hc, ?_⟩
      have HC := Lib.hid hc
      clear hg hc
      have h8 : ac.tmps.getD 8 undef = .int .i64 (r) := (ho 8 (by kernel_rfl)).trans rfl
      unfold Oper.wp
      go_simp
      exact Stepped.at rfl hd (Below.refl _ _) (FU_mk (.val (cond (gon (gon (true) (x) true) (B86) false) (.int .i64 (r)) undef)) rfl (by show (_ : Value) = _; first | rfl | (rw [HC.out]; first | rfl | simp) | (rw [HC.out]; simp [*])))
    · intro ac wx hb hd hs ho hp
      have hg : ac.tmps.getD 87 undef = cond (gon (true) (x) true) (.bool (B86)) undef := ival_at hp 9 87 (by kernel_rfl) rfl
      rcases Bool.eq_false_or_eq_true (gon (gon (true) (x) true) (B86) false) with hc | hc
      rotate_left
      · exact Or.inr ⟨(wanted_gon (k := 9) (d := 87) rfl (by kernel_rfl) hg).trans hc, fun d hd => FU_mk (.val _) rfl (by rw [hc]; rfl)⟩
      refine Or.inl ⟨(wanted_gon (k := 9) (d := 87) rfl (by kernel_rfl) hg).trans hc, ?_⟩
      have HC := Lib.hid hc
      clear hg hc
      have h88 : ac.tmps.getD 88 undef = cond (gon (gon (true) (x) true) (B86) false) (.int .i64 (r)) undef := ival_at hp 10 88 (by kernel_rfl) rfl
      rw [HC.out, cond_true] at h88
      unfold Oper.wp
      go_simp
      exact Stepped.at rfl hd (Below.refl _ _) (FU_mk (.val (cond (gon (gon (true) (x) true) (B86) false) (.bool (B89)) undef)) rfl (by show (_ : Value) = _; first | rfl | (rw [HC.out]; rw [← hB89]; first | rfl | simp) | (rw [HC.out]; simp [*])))
    · intro ac wx hb hd hs ho hp
      have hg : ac.tmps.getD 87 undef = cond (gon (true) (x) true) (.bool (B86)) undef := ival_at hp 9 87 (by kernel_rfl) rfl
      rcases Bool.eq_false_or_eq_true (gon (gon (true) (x) true) (B86) false) with hc | hc
      rotate_left
      · exact Or.inr ⟨(wanted_gon (k := 9) (d := 87) rfl (by kernel_rfl) hg).trans hc, fun d hd => FU_mk (.val _) rfl (by rw [hc]; rfl)⟩
      refine Or.inl ⟨(wanted_gon (k := 9) (d := 87) rfl (by kernel_rfl) hg).trans hc, ?_⟩
      have HC := Lib.hid hc
      clear hg hc
      have h89 : ac.tmps.getD 89 undef = cond (gon (gon (true) (x) true) (B86) false) (.bool (B89)) undef := ival_at hp 11 89 (by kernel_rfl) rfl
      rw [HC.out, cond_true] at h89
      unfold Oper.wp
      go_simp
      exact Stepped.at rfl hd (Below.refl _ _) (FU_mk (.val (cond (gon (gon (true) (x) true) (B86) false) (.bool (B89)) undef)) rfl (by show (_ : Value) = _; first | rfl | (rw [HC.out]; first | rfl | simp) | (rw [HC.out]; simp [*])))
    · intro ac wx hb hd hs ho hp
      have hg : ac.tmps.getD 90 undef = cond (gon (gon (true) (x) true) (B86) false) (.bool (B89)) undef := ival_at hp 12 90 (by kernel_rfl) rfl
      rcases Bool.eq_false_or_eq_true (gon (gon (gon (true) (x) true) (B86) false) (B89) true) with hc | hc
      rotate_left
      · exact Or.inr ⟨(wanted_gon (k := 12) (d := 90) rfl (by kernel_rfl) hg).trans hc, fun d hd => FU_mk (.val _) rfl (by rw [hc]; rfl)⟩
      refine Or.inl ⟨(wanted_gon (k := 12) (d := 90) rfl (by kernel_rfl) hg).trans hc, ?_⟩
      have HC := Lib.hid hc
      clear hg hc
      have h0 : ac.tmps.getD 0 undef = .int .i64 (a) := (ho 0 (by kernel_rfl)).trans rfl
      unfold Oper.wp
      go_simp
      exact Stepped.at rfl hd (Below.refl _ _) (FU_mk (.val (cond (gon (gon (gon (true) (x) true) (B86) false) (B89) true) (.int .i64 (a)) undef)) rfl (by show (_ : Value) = _; first | rfl | (rw [HC.out]; first | rfl | simp) | (rw [HC.out]; simp [*])))
    · intro ac wx hb hd hs ho hp
      have hg : ac.tmps.getD 90 undef = cond (gon (gon (true) (x) true) (B86) false) (.bool (B89)) undef := ival_at hp 12 90 (by kernel_rfl) rfl
      rcases Bool.eq_false_or_eq_true (gon (gon (gon (true) (x) true) (B86) false) (B89) true) with hc | hc
      rotate_left
      · exact Or.inr ⟨(wanted_gon (k := 12) (d := 90) rfl (by kernel_rfl) hg).trans hc, fun d hd => FU_mk (.val _) rfl (by rw [hc]; rfl)⟩
      refine Or.inl ⟨(wanted_gon (k := 12) (d := 90) rfl (by kernel_rfl) hg).trans hc, ?_⟩
      have HC := Lib.hid hc
      clear hg hc
      have h91 : ac.tmps.getD 91 undef = cond (gon (gon (gon (true) (x) true) (B86) false) (B89) true) (.int .i64 (a)) undef := ival_at hp 13 91 (by kernel_rfl) rfl
      rw [HC.out, cond_true] at h91
      unfold Oper.wp
      go_simp
      exact Stepped.at rfl hd (Below.refl _ _) (FU_mk (.val (cond (gon (gon (gon (true) (x) true) (B86) false) (B89) true) (.bool (B92)) undef)) rfl (by show (_ : Value) = _; first | rfl | (rw [HC.out]; rw [← hB92]; first | rfl | simp) | (rw [HC.out]; simp [*])))
    · intro ac wx hb hd hs ho hp
      have hg : ac.tmps.getD 87 undef = cond (gon (true) (x) true) (.bool (B86)) undef := ival_at hp 9 87 (by kernel_rfl) rfl
      rcases Bool.eq_false_or_eq_true (gon (gon (true) (x) true) (B86) false) with hc | hc
      rotate_left
      · exact Or.inr ⟨(wanted_gon (k := 9) (d := 87) rfl (by kernel_rfl) hg).trans hc, fun d hd => FU_mk (.val _) rfl (by rw [hc]; rfl)⟩
      refine Or.inl ⟨(wanted_gon (k := 9) (d := 87) rfl (by kernel_rfl) hg).trans hc, ?_⟩
      have HC := Lib.hid hc
      clear hg hc
      have h90 : ac.tmps.getD 90 undef = cond (gon (gon (true) (x) true) (B86) false) (.bool (B89)) undef := ival_at hp 12 90 (by kernel_rfl) rfl
      rw [HC.out, cond_true] at h90
      rcases Bool.eq_false_or_eq_true (B89) with e | e
      · rw [e] at h90
        have E := Lib.hid e
        clear e
        have h92 : ac.tmps.getD 92 undef = cond (gon (gon (gon (true) (x) true) (B86) false) (B89) true) (.bool (B92)) undef := ival_at hp 14 92 (by kernel_rfl) rfl
        rw [gon_mk HC.out E.out, cond_true] at h92
        unfold Oper.wp
        go_simp
        exact Stepped.at rfl hd (Below.refl _ _) (FU_mk (.val (cond (gon (gon (true) (x) true) (B86) false) (.bool ((B89 && B92))) undef)) rfl (by show (_ : Value) = _; rw [HC.out, cond_true]; first | (simp only [E.out, Bool.true_and]; done) | simp [E.out]))
      · rw [e] at h90
        have E := Lib.hid e
        clear e
        unfold Oper.wp
        go_simp
        exact Stepped.at rfl hd (Below.refl _ _) (FU_mk (.val (cond (gon (gon (true) (x) true) (B86) false) (.bool ((B89 && B92))) undef)) rfl (by show (_ : Value) = _; rw [HC.out, cond_true]; first | (simp only [E.out, Bool.false_and]; done) | simp [E.out]))
    · intro ac wx hb hd hs ho hp
      have hg : ac.tmps.getD 79 undef = cond (true) (.bool (x)) undef := ival_at hp 1 79 (by kernel_rfl) rfl
      rcases Bool.eq_false_or_eq_true (gon (true) (x) true) with hc | hc
      rotate_left
      · exact Or.inr ⟨(wanted_gon (k := 1) (d := 79) rfl (by kernel_rfl) hg).trans hc, fun d hd => FU_mk (.val _) rfl (by rw [hc]; rfl)⟩
      refine Or.inl ⟨(wanted_gon (k := 1) (d := 79) rfl (by kernel_rfl) hg).trans hc, ?_⟩
      have HC := Lib.hid hc
      clear hg hc
      have h87 : ac.tmps.getD 87 undef = cond (gon (true) (x) true) (.bool (B86)) undef := ival_at hp 9 87 (by kernel_rfl) rfl
      rw [HC.out, cond_true] at h87
      rcases Bool.eq_false_or_eq_true (B86) with e | e
      · rw [e] at h87
        have E := Lib.hid e
        clear e
        unfold Oper.wp
        go_simp
        exact Stepped.at rfl hd (Below.refl _ _) (FU_mk (.val (cond (gon (true) (x) true) (.bool ((B86 || (B89 && B92)))) undef)) rfl (by show (_ : Value) = _; rw [HC.out, cond_true]; first | (simp only [E.out, Bool.true_or]; done) | simp [E.out]))
      · rw [e] at h87
        have E := Lib.hid e
        clear e
        have h93 : ac.tmps.getD 93 undef = cond (gon (gon (true) (x) true) (B86) false) (.bool ((B89 && B92))) undef := ival_at hp 15 93 (by kernel_rfl) rfl
        rw [gon_mk HC.out E.out, cond_true] at h93
        unfold Oper.wp
        go_simp
        exact Stepped.at rfl hd (Below.refl _ _) (FU_mk (.val (cond (gon (true) (x) true) (.bool ((B86 || (B89 && B92)))) undef)) rfl (by show (_ : Value) = _; rw [HC.out, cond_true]; first | (simp only [E.out, Bool.false_or]; done) | simp [E.out]))
    · intro ac wx hb hd hs ho hp
      have hg : ac.tmps.getD 79 undef = cond (true) (.bool (x)) undef := ival_at hp 1 79 (by kernel_rfl) rfl
      rcases Bool.eq_false_or_eq_true (gon (true) (x) true) with hc | hc
      rotate_left
      · exact Or.inr ⟨(wanted_gon (k := 1) (d := 79) rfl (by kernel_rfl) hg).trans hc, fun d hd => FU_mk (.val _) rfl (by rw [hc]; rfl)⟩
      refine Or.inl ⟨(wanted_gon (k := 1) (d := 79) rfl (by kernel_rfl) hg).trans hc, ?_⟩
      have HC := Lib.hid hc
      clear hg hc
      have h94 : ac.tmps.getD 94 undef = cond (gon (true) (x) true) (.bool ((B86 || (B89 && B92)))) undef := ival_at hp 16 94 (by kernel_rfl) rfl
      rw [HC.out, cond_true] at h94
      unfold Oper.wp
      go_simp
      exact Stepped.at rfl hd (Below.refl _ _) (FU_mk (.val (cond (gon (true) (x) true) (.bool ((B86 || (B89 && B92)))) undef)) rfl (by show (_ : Value) = _; first | rfl | (rw [HC.out]; first | rfl | simp) | (rw [HC.out]; simp [*])))
    · intro ac wx hb hd hs ho hp
      have hg : ac.tmps.getD 95 undef = cond (gon (true) (x) true) (.bool ((B86 || (B89 && B92)))) undef := ival_at hp 17 95 (by kernel_rfl) rfl
      rcases Bool.eq_false_or_eq_true (gon (gon (true) (x) true) ((B86 || (B89 && B92))) false) with hc | hc
      rotate_left
      · exact Or.inr ⟨(wanted_gon (k := 17) (d := 95) rfl (by kernel_rfl) hg).trans hc, fun d hd => FU_mk (.val _) rfl (by rw [hc]; rfl)⟩
      refine Or.inl ⟨(wanted_gon (k := 17) (d := 95) rfl (by kernel_rfl) hg).trans hc, ?_⟩
      have HC := Lib.hid hc
      clear hg hc
      have h8 : ac.tmps.getD 8 undef = .int .i64 (r) := (ho 8 (by kernel_rfl)).trans rfl
      unfold Oper.wp
      go_simp
      exact Stepped.at rfl hd (Below.refl _ _) (FU_mk (.val (cond (gon (gon (true) (x) true) ((B86 || (B89 && B92))) false) (.int .i64 (r)) undef)) rfl (by show (_ : Value) = _; first | rfl | (rw [HC.out]; first | rfl | simp) | (rw [HC.out]; simp [*])))
    · intro ac wx hb hd hs ho hp
      have hg : ac.tmps.getD 95 undef = cond (gon (true) (x) true) (.bool ((B86 || (B89 && B92)))) undef := ival_at hp 17 95 (by kernel_rfl) rfl
      rcases Bool.eq_false_or_eq_true (gon (gon (true) (x) true) ((B86 || (B89 && B92))) false) with hc | hc
      rotate_left
      · exact Or.inr ⟨(wanted_gon (k := 17) (d := 95) rfl (by kernel_rfl) hg).trans hc, fun d hd => FU_mk (.val _) rfl (by rw [hc]; rfl)⟩
      refine Or.inl ⟨(wanted_gon (k := 17) (d := 95) rfl (by kernel_rfl) hg).trans hc, ?_⟩
      have HC := Lib.hid hc
      clear hg hc
      have h96 : ac.tmps.getD 96 undef = cond (gon (gon (true) (x) true) ((B86 || (B89 && B92))) false) (.int .i64 (r)) undef := ival_at hp 18 96 (by kernel_rfl) rfl
      rw [HC.out, cond_true] at h96
      unfold Oper.wp
      go_simp
      exact Stepped.at rfl hd (Below.refl _ _) (FU_mk (.val (cond (gon (gon (true) (x) true) ((B86 || (B89 && B92))) false) (.bool (B97)) undef)) rfl (by show (_ : Value) = _; first | rfl | (rw [HC.out]; rw [← hB97]; first | rfl | simp) | (rw [HC.out]; simp [*])))
    · intro ac wx hb hd hs ho hp
      have hg : ac.tmps.getD 95 undef = cond (gon (true) (x) true) (.bool ((B86 || (B89 && B92)))) undef := ival_at hp 17 95 (by kernel_rfl) rfl
      rcases Bool.eq_false_or_eq_true (gon (gon (true) (x) true) ((B86 || (B89 && B92))) false) with hc | hc
      rotate_left
      · exact Or.inr ⟨(wanted_gon (k := 17) (d := 95) rfl (by kernel_rfl) hg).trans hc, fun d hd => FU_mk (.val _) rfl (by rw [hc]; rfl)⟩
      refine Or.inl ⟨(wanted_gon (k := 17) (d := 95) rfl (by kernel_rfl) hg).trans hc, ?_⟩
      have HC := Lib.hid hc
      clear hg hc
      have h97 : ac.tmps.getD 97 undef = cond (gon (gon (true) (x) true) ((B86 || (B89 && B92))) false) (.bool (B97)) undef := ival_at hp 19 97 (by kernel_rfl) rfl
      rw [HC.out, cond_true] at h97
      unfold Oper.wp
      go_simp
      exact Stepped.at rfl hd (Below.refl _ _) (FU_mk (.val (cond (gon (gon (true) (x) true) ((B86 || (B89 && B92))) false) (.bool (B97)) undef)) rfl (by show (_ : Value) = _; first | rfl | (rw [HC.out]; first | rfl | simp) | (rw [HC.out]; simp [*])))
    · intro ac wx hb hd hs ho hp
      have hg : ac.tmps.getD 98 undef = cond (gon (gon (true) (x) true) ((B86 || (B89 && B92))) false) (.bool (B97)) undef := ival_at hp 20 98 (by kernel_rfl) rfl
      rcases Bool.eq_false_or_eq_true (gon (gon (gon (true) (x) true) ((B86 || (B89 && B92))) false) (B97) true) with hc | hc
      rotate_left
      · exact Or.inr ⟨(wanted_gon (k := 20) (d := 98) rfl (by kernel_rfl) hg).trans hc, fun d hd => FU_mk (.val _) rfl (by rw [hc]; rfl)⟩
      refine Or.inl ⟨(wanted_gon (k := 20) (d := 98) rfl (by kernel_rfl) hg).trans hc, ?_⟩
      have HC := Lib.hid hc
      clear hg hc
      have h0 : ac.tmps.getD 0 undef = .int .i64 (a) := (ho 0 (by kernel_rfl)).trans rfl
      unfold Oper.wp
      go_simp
      exact Stepped.at rfl hd (Below.refl _ _) (FU_mk (.val (cond (gon (gon (gon (true) (x) true) ((B86 || (B89 && B92))) false) (B97) true) (.int .i64 (a)) undef)) rfl (by show (_ : Value) = _; first | rfl | (rw [HC.out]; first | rfl | simp) | (rw [HC.out]; simp [*])))
    · intro ac wx hb hd hs ho hp
      have hg : ac.tmps.getD 98 undef = cond (gon (gon (true) (x) true) ((B86 || (B89 && B92))) false) (.bool (B97)) undef := ival_at hp 20 98 (by kernel_rfl) rfl
      rcases Bool.eq_false_or_eq_true (gon (gon (gon (true) (x) true) ((B86 || (B89 && B92))) false) (B97) true) with hc | hc
      rotate_left
      · exact Or.inr ⟨(wanted_gon (k := 20) (d := 98) rfl (by kernel_rfl) hg).trans hc, fun d hd => FU_mk (.val _) rfl (by rw [hc]; rfl)⟩
      refine Or.inl ⟨(wanted_gon (k := 20) (d := 98) rfl (by kernel_rfl) hg).trans hc, ?_⟩
      have HC := Lib.hid hc
      clear hg hc
      have h99 : ac.tmps.getD 99 undef = cond (gon (gon (gon (true) (x) true) ((B86 || (B89 && B92))) false) (B97) true) (.int .i64 (a)) undef := ival_at hp 21 99 (by kernel_rfl) rfl
      rw [HC.out, cond_true] at h99
      unfold Oper.wp
      go_simp
      exact Stepped.at rfl hd (Below.refl _ _) (FU_mk (.val (cond (gon (gon (gon (true) (x) true) ((B86 || (B89 && B92))) false) (B97) true) (.bool (B100)) undef)) rfl (by show (_ : Value) = _; first | rfl | (rw [HC.out]; rw [← hB100]; first | rfl | simp) | (rw [HC.out]; simp [*])))
    · intro ac wx hb hd hs ho hp
      have hg : ac.tmps.getD 95 undef = cond (gon (true) (x) true) (.bool ((B86 || (B89 && B92)))) undef := ival_at hp 17 95 (by kernel_rfl) rfl
      rcases Bool.eq_false_or_eq_true (gon (gon (true) (x) true) ((B86 || (B89 && B92))) false) with hc | hc
      rotate_left
      · exact Or.inr ⟨(wanted_gon (k := 17) (d := 95) rfl (by kernel_rfl) hg).trans hc, fun d hd => FU_mk (.val _) rfl (by rw [hc]; rfl)⟩
      refine Or.inl ⟨(wanted_gon (k := 17) (d := 95) rfl (by kernel_rfl) hg).trans hc, ?_⟩
      have HC := Lib.hid hc
      clear hg hc
      have h98 : ac.tmps.getD 98 undef = cond (gon (gon (true) (x) true) ((B86 || (B89 && B92))) false) (.bool (B97)) undef := ival_at hp 20 98 (by kernel_rfl) rfl
      rw [HC.out, cond_true] at h98
      rcases Bool.eq_false_or_eq_true (B97) with e | e
      · rw [e] at h98
        have E := Lib.hid e
        clear e
        have h100 : ac.tmps.getD 100 undef = cond (gon (gon (gon (true) (x) true) ((B86 || (B89 && B92))) false) (B97) true) (.bool (B100)) undef := ival_at hp 22 100 (by kernel_rfl) rfl
        rw [gon_mk HC.out E.out, cond_true] at h100
        unfold Oper.wp
        go_simp
        exact Stepped.at rfl hd (Below.refl _ _) (FU_mk (.val (cond (gon (gon (true) (x) true) ((B86 || (B89 && B92))) false) (.bool ((B97 && B100))) undef)) rfl (by show (_ : Value) = _; rw [HC.out, cond_true]; first | (simp only [E.out, Bool.true_and]; done) | simp [E.out]))
      · rw [e] at h98
        have E := Lib.hid e
        clear e
        unfold Oper.wp
        go_simp
        exact Stepped.at rfl hd (Below.refl _ _) (FU_mk (.val (cond (gon (gon (true) (x) true) ((B86 || (B89 && B92))) false) (.bool ((B97 && B100))) undef)) rfl (by show (_ : Value) = _; rw [HC.out, cond_true]; first | (simp only [E.out, Bool.false_and]; done) | simp [E.out]))
    · intro ac wx hb hd hs ho hp
      have hg : ac.tmps.getD 79 undef = cond (true) (.bool (x)) undef := ival_at hp 1 79 (by kernel_rfl) rfl
      rcases Bool.eq_false_or_eq_true (gon (true) (x) true) with hc | hc
      rotate_left
      · exact Or.inr ⟨(wanted_gon (k := 1) (d := 79) rfl (by kernel_rfl) hg).trans hc, fun d hd => FU_mk (.val _) rfl (by rw [hc]; rfl)⟩
      refine Or.inl ⟨(wanted_gon (k := 1) (d := 79) rfl (by kernel_rfl) hg).trans hc, ?_⟩
      have HC := Lib.hid hc
      clear hg hc
      have h95 : ac.tmps.getD 95 undef = cond (gon (true) (x) true) (.bool ((B86 || (B89 && B92)))) undef := ival_at hp 17 95 (by kernel_rfl) rfl
      rw [HC.out, cond_true] at h95
      rcases Bool.eq_false_or_eq_true ((B86 || (B89 && B92))) with e | e
      · rw [e] at h95
        have E := Lib.hid e
        clear e
        unfold Oper.wp
        go_simp
        exact Stepped.at rfl hd (Below.refl _ _) (FU_mk (.val (cond (gon (true) (x) true) (.bool (((B86 || (B89 && B92)) || (B97 && B100)))) undef)) rfl (by show (_ : Value) = _; rw [HC.out, cond_true]; first | (simp only [E.out, Bool.true_or]; done) | simp [E.out]))
      · rw [e] at h95
        have E := Lib.hid e
        clear e
        have h101 : ac.tmps.getD 101 undef = cond (gon (gon (true) (x) true) ((B86 || (B89 && B92))) false) (.bool ((B97 && B100))) undef := ival_at hp 23 101 (by kernel_rfl) rfl
        rw [gon_mk HC.out E.out, cond_true] at h101
        unfold Oper.wp
        go_simp
        exact Stepped.at rfl hd (Below.refl _ _) (FU_mk (.val (cond (gon (true) (x) true) (.bool (((B86 || (B89 && B92)) || (B97 && B100)))) undef)) rfl (by show (_ : Value) = _; rw [HC.out, cond_true]; first | (simp only [E.out, Bool.false_or]; done) | simp [E.out]))
    · intro ac wx hb hd hs ho hp
      have hg : ac.tmps.getD 79 undef = cond (true) (.bool (x)) undef := ival_at hp 1 79 (by kernel_rfl) rfl
      rcases Bool.eq_false_or_eq_true (gon (true) (x) true) with hc | hc
      rotate_left
      · exact Or.inr ⟨(wanted_gon (k := 1) (d := 79) rfl (by kernel_rfl) hg).trans hc, fun d hd => FU_mk (.val _) rfl (by rw [hc]; rfl)⟩
      refine Or.inl ⟨(wanted_gon (k := 1) (d := 79) rfl (by kernel_rfl) hg).trans hc, ?_⟩
      have HC := Lib.hid hc
      clear hg hc
      have h102 : ac.tmps.getD 102 undef = cond (gon (true) (x) true) (.bool (((B86 || (B89 && B92)) || (B97 && B100)))) undef := ival_at hp 24 102 (by kernel_rfl) rfl
      rw [HC.out, cond_true] at h102
      unfold Oper.wp
      go_simp
      exact Stepped.at rfl hd (Below.refl _ _) (FU_mk (.val (cond (gon (true) (x) true) (.bool (((B86 || (B89 && B92)) || (B97 && B100)))) undef)) rfl (by show (_ : Value) = _; first | rfl | (rw [HC.out]; first | rfl | simp) | (rw [HC.out]; simp [*])))
    · intro ac wx hb hd hs ho hp
      have hg : ac.tmps.getD 103 undef = cond (gon (true) (x) true) (.bool (((B86 || (B89 && B92)) || (B97 && B100)))) undef := ival_at hp 25 103 (by kernel_rfl) rfl
      rcases Bool.eq_false_or_eq_true (gon (gon (true) (x) true) (((B86 || (B89 && B92)) || (B97 && B100))) false) with hc | hc
      rotate_left
      · exact Or.inr ⟨(wanted_gon (k := 25) (d := 103) rfl (by kernel_rfl) hg).trans hc, fun d hd => FU_mk (.val _) rfl (by rw [hc]; rfl)⟩
      refine Or.inl ⟨(wanted_gon (k := 25) (d := 103) rfl (by kernel_rfl) hg).trans hc, ?_⟩
      have HC := Lib.hid hc
      clear hg hc
      have h8 : ac.tmps.getD 8 undef = .int .i64 (r) := (ho 8 (by kernel_rfl)).trans rfl
      unfold Oper.wp
      go_simp
      exact Stepped.at rfl hd (Below.refl _ _) (FU_mk (.val (cond (gon (gon (true) (x) true) (((B86 || (B89 && B92)) || (B97 && B100))) false) (.int .i64 (r)) undef)) rfl (by show (_ : Value) = _; first | rfl | (rw [HC.out]; first | rfl | simp) | (rw [HC.out]; simp [*])))
    · intro ac wx hb hd hs ho hp
      have hg : ac.tmps.getD 103 undef = cond (gon (true) (x) true) (.bool (((B86 || (B89 && B92)) || (B97 && B100)))) undef := ival_at hp 25 103 (by kernel_rfl) rfl
      rcases Bool.eq_false_or_eq_true (gon (gon (true) (x) true) (((B86 || (B89 && B92)) || (B97 && B100))) false) with hc | hc
      rotate_left
      · exact Or.inr ⟨(wanted_gon (k := 25) (d := 103) rfl (by kernel_rfl) hg).trans hc, fun d hd => FU_mk (.val _) rfl (by rw [hc]; rfl)⟩
      refine Or.inl ⟨(wanted_gon (k := 25) (d := 103) rfl (by kernel_rfl) hg).trans hc, ?_⟩
      have HC := Lib.hid hc
      clear hg hc
      have h1 : ac.tmps.getD 1 undef = .int .i64 (b) := (ho 1 (by kernel_rfl)).trans rfl
      unfold Oper.wp
      go_simp
      exact Stepped.at rfl hd (Below.refl _ _) (FU_mk (.val (cond (gon (gon (true) (x) true) (((B86 || (B89 && B92)) || (B97 && B100))) false) (.int .i64 (b)) undef)) rfl (by show (_ : Value) = _; first | rfl | (rw [HC.out]; first | rfl | simp) | (rw [HC.out]; simp [*])))
    · intro ac wx hb hd hs ho hp
      have hg : ac.tmps.getD 103 undef = cond (gon (true) (x) true) (.bool (((B86 || (B89 && B92)) || (B97 && B100)))) undef := ival_at hp 25 103 (by kernel_rfl) rfl
      rcases Bool.eq_false_or_eq_true (gon (gon (true) (x) true) (((B86 || (B89 && B92)) || (B97 && B100))) false) with hc | hc
      rotate_left
      · exact Or.inr ⟨(wanted_gon (k := 25) (d := 103) rfl (by kernel_rfl) hg).trans hc, fun d hd => FU_mk (.val _) rfl (by rw [hc]; rfl)⟩
      refine Or.inl ⟨(wanted_gon (k := 25) (d := 103) rfl (by kernel_rfl) hg).trans hc, ?_⟩
      have HC := Lib.hid hc
      clear hg hc
      have h1 : ac.tmps.getD 1 undef = .int .i64 (b) := (ho 1 (by kernel_rfl)).trans rfl
      unfold Oper.wp
      go_simp
      exact Stepped.at rfl hd (Below.refl _ _) (FU_mk (.val (cond (gon (gon (true) (x) true) (((B86 || (B89 && B92)) || (B97 && B100))) false) (.int .i64 (b)) undef)) rfl (by show (_ : Value) = _; first | rfl | (rw [HC.out]; first | rfl | simp) | (rw [HC.out]; simp [*])))
    · intro ac wx hb hd hs ho hp
      have hg : ac.tmps.getD 103 undef = cond (gon (true) (x) true) (.bool (((B86 || (B89 && B92)) || (B97 && B100)))) undef := ival_at hp 25 103 (by kernel_rfl) rfl
      rcases Bool.eq_false_or_eq_true (gon (gon (true) (x) true) (((B86 || (B89 && B92)) || (B97 && B100))) false) with hc | hc
      rotate_left
      · exact Or.inr ⟨(wanted_gon (k := 25) (d := 103) rfl (by kernel_rfl) hg).trans hc, fun d hd => FU_mk (.val _) rfl (by rw [hc]; rfl)⟩
      refine Or.inl ⟨(wanted_gon (k := 25) (d := 103) rfl (by kernel_rfl) hg).trans hc, ?_⟩
      have HC := Lib.hid hc
      clear hg hc
      have h106 : ac.tmps.getD 106 undef = cond (gon (gon (true) (x) true) (((B86 || (B89 && B92)) || (B97 && B100))) false) (.int .i64 (b)) undef := ival_at hp 28 106 (by kernel_rfl) rfl
      rw [HC.out, cond_true] at h106
      unfold Oper.wp
      go_simp
      exact Stepped.at rfl hd (Below.refl _ _) (FU_mk (.val (cond (gon (gon (true) (x) true) (((B86 || (B89 && B92)) || (B97 && B100))) false) (.int .i64 (IntKind.i64.wrap (-(b)))) undef)) rfl (by show (_ : Value) = _; first | rfl | (rw [HC.out]; first | rfl | simp) | (rw [HC.out]; simp [*])))
    · intro ac wx hb hd hs ho hp
      have hg : ac.tmps.getD 103 undef = cond (gon (true) (x) true) (.bool (((B86 || (B89 && B92)) || (B97 && B100)))) undef := ival_at hp 25 103 (by kernel_rfl) rfl
      rcases Bool.eq_false_or_eq_true (gon (gon (true) (x) true) (((B86 || (B89 && B92)) || (B97 && B100))) false) with hc | hc
      rotate_left
      · exact Or.inr ⟨(wanted_gon (k := 25) (d := 103) rfl (by kernel_rfl) hg).trans hc, fun d hd => FU_mk (.val _) rfl (by rw [hc]; rfl)⟩
      refine Or.inl ⟨(wanted_gon (k := 25) (d := 103) rfl (by kernel_rfl) hg).trans hc, ?_⟩
      have HC := Lib.hid hc
      clear hg hc
      have h105 : ac.tmps.getD 105 undef = cond (gon (gon (true) (x) true) (((B86 || (B89 && B92)) || (B97 && B100))) false) (.int .i64 (b)) undef := ival_at hp 27 105 (by kernel_rfl) rfl
      rw [HC.out, cond_true] at h105
      have h107 : ac.tmps.getD 107 undef = cond (gon (gon (true) (x) true) (((B86 || (B89 && B92)) || (B97 && B100))) false) (.int .i64 (IntKind.i64.wrap (-(b)))) undef := ival_at hp 29 107 (by kernel_rfl) rfl
      rw [HC.out, cond_true] at h107
      unfold Oper.wp
      go_simp
      exact Stepped.at rfl hd (Below.refl _ _) (FU_mk (.val (cond (gon (gon (true) (x) true) (((B86 || (B89 && B92)) || (B97 && B100))) false) (.int .i64 (max (b) (IntKind.i64.wrap (-(b))))) undef)) rfl (by show (_ : Value) = _; first | rfl | (rw [HC.out]; first | rfl | simp) | (rw [HC.out]; simp [*])))
    · intro ac wx hb hd hs ho hp
      have hg : ac.tmps.getD 103 undef = cond (gon (true) (x) true) (.bool (((B86 || (B89 && B92)) || (B97 && B100)))) undef := ival_at hp 25 103 (by kernel_rfl) rfl
      rcases Bool.eq_false_or_eq_true (gon (gon (true) (x) true) (((B86 || (B89 && B92)) || (B97 && B100))) false) with hc | hc
      rotate_left
      · exact Or.inr ⟨(wanted_gon (k := 25) (d := 103) rfl (by kernel_rfl) hg).trans hc, fun d hd => FU_mk (.val _) rfl (by rw [hc]; rfl)⟩
      refine Or.inl ⟨(wanted_gon (k := 25) (d := 103) rfl (by kernel_rfl) hg).trans hc, ?_⟩
      have HC := Lib.hid hc
      clear hg hc
      have h104 : ac.tmps.getD 104 undef = cond (gon (gon (true) (x) true) (((B86 || (B89 && B92)) || (B97 && B100))) false) (.int .i64 (r)) undef := ival_at hp 26 104 (by kernel_rfl) rfl
      rw [HC.out, cond_true] at h104
      have h108 : ac.tmps.getD 108 undef = cond (gon (gon (true) (x) true) (((B86 || (B89 && B92)) || (B97 && B100))) false) (.int .i64 (max (b) (IntKind.i64.wrap (-(b))))) undef := ival_at hp 30 108 (by kernel_rfl) rfl
      rw [HC.out, cond_true] at h108
      unfold Oper.wp
      go_simp
      exact Stepped.at rfl hd (Below.refl _ _) (FU_mk (.val (cond (gon (gon (true) (x) true) (((B86 || (B89 && B92)) || (B97 && B100))) false) (.bool (B109)) undef)) rfl (by show (_ : Value) = _; first | rfl | (rw [HC.out]; rw [← hB109]; first | rfl | simp) | (rw [HC.out]; simp [*])))
    · intro ac wx hb hd hs ho hp
      have hg : ac.tmps.getD 79 undef = cond (true) (.bool (x)) undef := ival_at hp 1 79 (by kernel_rfl) rfl
      rcases Bool.eq_false_or_eq_true (gon (true) (x) true) with hc | hc
      rotate_left
      · exact Or.inr ⟨(wanted_gon (k := 1) (d := 79) rfl (by kernel_rfl) hg).trans hc, fun d hd => FU_mk (.val _) rfl (by rw [hc]; rfl)⟩
      refine Or.inl ⟨(wanted_gon (k := 1) (d := 79) rfl (by kernel_rfl) hg).trans hc, ?_⟩
      have HC := Lib.hid hc
      clear hg hc
      have h103 : ac.tmps.getD 103 undef = cond (gon (true) (x) true) (.bool (((B86 || (B89 && B92)) || (B97 && B100)))) undef := ival_at hp 25 103 (by kernel_rfl) rfl
      rw [HC.out, cond_true] at h103
      rcases Bool.eq_false_or_eq_true (((B86 || (B89 && B92)) || (B97 && B100))) with e | e
      · rw [e] at h103
        have E := Lib.hid e
        clear e
        unfold Oper.wp
        go_simp
        exact Stepped.at rfl hd (Below.refl _ _) (FU_mk (.val (cond (gon (true) (x) true) (.bool ((((B86 || (B89 && B92)) || (B97 && B100)) || B109))) undef)) rfl (by show (_ : Value) = _; rw [HC.out, cond_true]; first | (simp only [E.out, Bool.true_or]; done) | simp [E.out]))
      · rw [e] at h103
        have E := Lib.hid e
        clear e
        have h109 : ac.tmps.getD 109 undef = cond (gon (gon (true) (x) true) (((B86 || (B89 && B92)) || (B97 && B100))) false) (.bool (B109)) undef := ival_at hp 31 109 (by kernel_rfl) rfl
        rw [gon_mk HC.out E.out, cond_true] at h109
        unfold Oper.wp
        go_simp
        exact Stepped.at rfl hd (Below.refl _ _) (FU_mk (.val (cond (gon (true) (x) true) (.bool ((((B86 || (B89 && B92)) || (B97 && B100)) || B109))) undef)) rfl (by show (_ : Value) = _; rw [HC.out, cond_true]; first | (simp only [E.out, Bool.false_or]; done) | simp [E.out]))
    · intro ac wx hb hd hs ho hp
      have hg : ac.tmps.getD 79 undef = cond (true) (.bool (x)) undef := ival_at hp 1 79 (by kernel_rfl) rfl
      rcases Bool.eq_false_or_eq_true (gon (true) (x) true) with hc | hc
      rotate_left
      · exact Or.inr ⟨(wanted_gon (k := 1) (d := 79) rfl (by kernel_rfl) hg).trans hc, fun d hd => FU_mk (.val _) rfl (by rw [hc]; rfl)⟩
      refine Or.inl ⟨(wanted_gon (k := 1) (d := 79) rfl (by kernel_rfl) hg).trans hc, ?_⟩
      have HC := Lib.hid hc
      clear hg hc
      have h110 : ac.tmps.getD 110 undef = cond (gon (true) (x) true) (.bool ((((B86 || (B89 && B92)) || (B97 && B100)) || B109))) undef := ival_at hp 32 110 (by kernel_rfl) rfl
      rw [HC.out, cond_true] at h110
      unfold Oper.wp
      go_simp
      exact Stepped.at rfl hd (Below.refl _ _) (FU_mk (.val (cond (gon (true) (x) true) (.bool ((((B86 || (B89 && B92)) || (B97 && B100)) || B109))) undef)) rfl (by show (_ : Value) = _; first | rfl | (rw [HC.out]; first | rfl | simp) | (rw [HC.out]; simp [*])))
    · intro ac wx hb hd hs ho hp
      have hg : ac.tmps.getD 111 undef = cond (gon (true) (x) true) (.bool ((((B86 || (B89 && B92)) || (B97 && B100)) || B109))) undef := ival_at hp 33 111 (by kernel_rfl) rfl
      rcases Bool.eq_false_or_eq_true (gon (gon (true) (x) true) ((((B86 || (B89 && B92)) || (B97 && B100)) || B109)) false) with hc | hc
      rotate_left
      · exact Or.inr ⟨(wanted_gon (k := 33) (d := 111) rfl (by kernel_rfl) hg).trans hc, fun d hd => FU_mk (.val _) rfl (by rw [hc]; rfl)⟩
      refine Or.inl ⟨(wanted_gon (k := 33) (d := 111) rfl (by kernel_rfl) hg).trans hc, ?_⟩
      have HC := Lib.hid hc
      clear hg hc
      have h8 : ac.tmps.getD 8 undef = .int .i64 (r) := (ho 8 (by kernel_rfl)).trans rfl
      unfold Oper.wp
      go_simp
      exact Stepped.at rfl hd (Below.refl _ _) (FU_mk (.val (cond (gon (gon (true) (x) true) ((((B86 || (B89 && B92)) || (B97 && B100)) || B109)) false) (.int .i64 (r)) undef)) rfl (by show (_ : Value) = _; first | rfl | (rw [HC.out]; first | rfl | simp) | (rw [HC.out]; simp [*])))
    · intro ac wx hb hd hs ho hp
      have hg : ac.tmps.getD 111 undef = cond (gon (true) (x) true) (.bool ((((B86 || (B89 && B92)) || (B97 && B100)) || B109))) undef := ival_at hp 33 111 (by kernel_rfl) rfl
      rcases Bool.eq_false_or_eq_true (gon (gon (true) (x) true) ((((B86 || (B89 && B92)) || (B97 && B100)) || B109)) false) with hc | hc
      rotate_left
      · exact Or.inr ⟨(wanted_gon (k := 33) (d := 111) rfl (by kernel_rfl) hg).trans hc, fun d hd => FU_mk (.val _) rfl (by rw [hc]; rfl)⟩
      refine Or.inl ⟨(wanted_gon (k := 33) (d := 111) rfl (by kernel_rfl) hg).trans hc, ?_⟩
      have HC := Lib.hid hc
      clear hg hc
      have h112 : ac.tmps.getD 112 undef = cond (gon (gon (true) (x) true) ((((B86 || (B89 && B92)) || (B97 && B100)) || B109)) false) (.int .i64 (r)) undef := ival_at hp 34 112 (by kernel_rfl) rfl
      rw [HC.out, cond_true] at h112
      unfold Oper.wp
      go_simp
      exact Stepped.at rfl hd (Below.refl _ _) (FU_mk (.val (cond (gon (gon (true) (x) true) ((((B86 || (B89 && B92)) || (B97 && B100)) || B109)) false) (.int .i64 (IntKind.i64.wrap (-(r)))) undef)) rfl (by show (_ : Value) = _; first | rfl | (rw [HC.out]; first | rfl | simp) | (rw [HC.out]; simp [*])))
    · intro ac wx hb hd hs ho hp
      have hg : ac.tmps.getD 111 undef = cond (gon (true) (x) true) (.bool ((((B86 || (B89 && B92)) || (B97 && B100)) || B109))) undef := ival_at hp 33 111 (by kernel_rfl) rfl
      rcases Bool.eq_false_or_eq_true (gon (gon (true) (x) true) ((((B86 || (B89 && B92)) || (B97 && B100)) || B109)) false) with hc | hc
      rotate_left
      · exact Or.inr ⟨(wanted_gon (k := 33) (d := 111) rfl (by kernel_rfl) hg).trans hc, fun d hd => FU_mk (.val _) rfl (by rw [hc]; rfl)⟩
      refine Or.inl ⟨(wanted_gon (k := 33) (d := 111) rfl (by kernel_rfl) hg).trans hc, ?_⟩
      have HC := Lib.hid hc
      clear hg hc
      have h1 : ac.tmps.getD 1 undef = .int .i64 (b) := (ho 1 (by kernel_rfl)).trans rfl
      unfold Oper.wp
      go_simp
      exact Stepped.at rfl hd (Below.refl _ _) (FU_mk (.val (cond (gon (gon (true) (x) true) ((((B86 || (B89 && B92)) || (B97 && B100)) || B109)) false) (.int .i64 (b)) undef)) rfl (by show (_ : Value) = _; first | rfl | (rw [HC.out]; first | rfl | simp) | (rw [HC.out]; simp [*])))
    · intro ac wx hb hd hs ho hp
      have hg : ac.tmps.getD 111 undef = cond (gon (true) (x) true) (.bool ((((B86 || (B89 && B92)) || (B97 && B100)) || B109))) undef := ival_at hp 33 111 (by kernel_rfl) rfl
      rcases Bool.eq_false_or_eq_true (gon (gon (true) (x) true) ((((B86 || (B89 && B92)) || (B97 && B100)) || B109)) false) with hc | hc
      rotate_left
      · exact Or.inr ⟨(wanted_gon (k := 33) (d := 111) rfl (by kernel_rfl) hg).trans hc, fun d hd => FU_mk (.val _) rfl (by rw [hc]; rfl)⟩
      refine Or.inl ⟨(wanted_gon (k := 33) (d := 111) rfl (by kernel_rfl) hg).trans hc, ?_⟩
      have HC := Lib.hid hc
      clear hg hc
      have h1 : ac.tmps.getD 1 undef = .int .i64 (b) := (ho 1 (by kernel_rfl)).trans rfl
      unfold Oper.wp
      go_simp
      exact Stepped.at rfl hd (Below.refl _ _) (FU_mk (.val (cond (gon (gon (true) (x) true) ((((B86 || (B89 && B92)) || (B97 && B100)) || B109)) false) (.int .i64 (b)) undef)) rfl (by show (_ : Value) = _; first | rfl | (rw [HC.out]; first | rfl | simp) | (rw [HC.out]; simp [*])))
    · intro ac wx hb hd hs ho hp
      have hg : ac.tmps.getD 111 undef = cond (gon (true) (x) true) (.bool ((((B86 || (B89 && B92)) || (B97 && B100)) || B109))) undef := ival_at hp 33 111 (by kernel_rfl) rfl
      rcases Bool.eq_false_or_eq_true (gon (gon (true) (x) true) ((((B86 || (B89 && B92)) || (B97 && B100)) || B109)) false) with hc | hc
      rotate_left
      · exact Or.inr ⟨(wanted_gon (k := 33) (d := 111) rfl (by kernel_rfl) hg).trans hc, fun d hd => FU_mk (.val _) rfl (by rw [hc]; rfl)⟩
      refine Or.inl ⟨(wanted_gon (k := 33) (d := 111) rfl (by kernel_rfl) hg).trans hc, ?_⟩
      have HC := Lib.hid hc
      clear hg hc
      have h115 : ac.tmps.getD 115 undef = cond (gon (gon (true) (x) true) ((((B86 || (B89 && B92)) || (B97 && B100)) || B109)) false) (.int .i64 (b)) undef := ival_at hp 37 115 (by kernel_rfl) rfl
      rw [HC.out, cond_true] at h115
      unfold Oper.wp
      go_simp
      exact Stepped.at rfl hd (Below.refl _ _) (FU_mk (.val (cond (gon (gon (true) (x) true) ((((B86 || (B89 && B92)) || (B97 && B100)) || B109)) false) (.int .i64 (IntKind.i64.wrap (-(b)))) undef)) rfl (by show (_ : Value) = _; first | rfl | (rw [HC.out]; first | rfl | simp) | (rw [HC.out]; simp [*])))
    · intro ac wx hb hd hs ho hp
      have hg : ac.tmps.getD 111 undef = cond (gon (true) (x) true) (.bool ((((B86 || (B89 && B92)) || (B97 && B100)) || B109))) undef := ival_at hp 33 111 (by kernel_rfl) rfl
      rcases Bool.eq_false_or_eq_true (gon (gon (true) (x) true) ((((B86 || (B89 && B92)) || (B97 && B100)) || B109)) false) with hc | hc
      rotate_left
      · exact Or.inr ⟨(wanted_gon (k := 33) (d := 111) rfl (by kernel_rfl) hg).trans hc, fun d hd => FU_mk (.val _) rfl (by rw [hc]; rfl)⟩
      refine Or.inl ⟨(wanted_gon (k := 33) (d := 111) rfl (by kernel_rfl) hg).trans hc, ?_⟩
      have HC := Lib.hid hc
      clear hg hc
      have h114 : ac.tmps.getD 114 undef = cond (gon (gon (true) (x) true) ((((B86 || (B89 && B92)) || (B97 && B100)) || B109)) false) (.int .i64 (b)) undef := ival_at hp 36 114 (by kernel_rfl) rfl
      rw [HC.out, cond_true] at h114
      have h116 : ac.tmps.getD 116 undef = cond (gon (gon (true) (x) true) ((((B86 || (B89 && B92)) || (B97 && B100)) || B109)) false) (.int .i64 (IntKind.i64.wrap (-(b)))) undef := ival_at hp 38 116 (by kernel_rfl) rfl
      rw [HC.out, cond_true] at h116
      unfold Oper.wp
      go_simp
      exact Stepped.at rfl hd (Below.refl _ _) (FU_mk (.val (cond (gon (gon (true) (x) true) ((((B86 || (B89 && B92)) || (B97 && B100)) || B109)) false) (.int .i64 (max (b) (IntKind.i64.wrap (-(b))))) undef)) rfl (by show (_ : Value) = _; first | rfl | (rw [HC.out]; first | rfl | simp) | (rw [HC.out]; simp [*])))
    · intro ac wx hb hd hs ho hp
      have hg : ac.tmps.getD 111 undef = cond (gon (true) (x) true) (.bool ((((B86 || (B89 && B92)) || (B97 && B100)) || B109))) undef := ival_at hp 33 111 (by kernel_rfl) rfl
      rcases Bool.eq_false_or_eq_true (gon (gon (true) (x) true) ((((B86 || (B89 && B92)) || (B97 && B100)) || B109)) false) with hc | hc
      rotate_left
      · exact Or.inr ⟨(wanted_gon (k := 33) (d := 111) rfl (by kernel_rfl) hg).trans hc, fun d hd => FU_mk (.val _) rfl (by rw [hc]; rfl)⟩
      refine Or.inl ⟨(wanted_gon (k := 33) (d := 111) rfl (by kernel_rfl) hg).trans hc, ?_⟩
      have HC := Lib.hid hc
      clear hg hc
      have h113 : ac.tmps.getD 113 undef = cond (gon (gon (true) (x) true) ((((B86 || (B89 && B92)) || (B97 && B100)) || B109)) false) (.int .i64 (IntKind.i64.wrap (-(r)))) undef := ival_at hp 35 113 (by kernel_rfl) rfl
      rw [HC.out, cond_true] at h113
      have h117 : ac.tmps.getD 117 undef = cond (gon (gon (true) (x) true) ((((B86 || (B89 && B92)) || (B97 && B100)) || B109)) false) (.int .i64 (max (b) (IntKind.i64.wrap (-(b))))) undef := ival_at hp 39 117 (by kernel_rfl) rfl
      rw [HC.out, cond_true] at h117
      unfold Oper.wp
      go_simp
      exact Stepped.at rfl hd (Below.refl _ _) (FU_mk (.val (cond (gon (gon (true) (x) true) ((((B86 || (B89 && B92)) || (B97 && B100)) || B109)) false) (.bool (B118)) undef)) rfl (by show (_ : Value) = _; first | rfl | (rw [HC.out]; rw [← hB118]; first | rfl | simp) | (rw [HC.out]; simp [*])))
    · intro ac wx hb hd hs ho hp
      have hg : ac.tmps.getD 79 undef = cond (true) (.bool (x)) undef := ival_at hp 1 79 (by kernel_rfl) rfl
      rcases Bool.eq_false_or_eq_true (gon (true) (x) true) with hc | hc
      rotate_left
      · exact Or.inr ⟨(wanted_gon (k := 1) (d := 79) rfl (by kernel_rfl) hg).trans hc, fun d hd => FU_mk (.val _) rfl (by rw [hc]; rfl)⟩
      refine Or.inl ⟨(wanted_gon (k := 1) (d := 79) rfl (by kernel_rfl) hg).trans hc, ?_⟩
      have HC := Lib.hid hc
      clear hg hc
      have h111 : ac.tmps.getD 111 undef = cond (gon (true) (x) true) (.bool ((((B86 || (B89 && B92)) || (B97 && B100)) || B109))) undef := ival_at hp 33 111 (by kernel_rfl) rfl
      rw [HC.out, cond_true] at h111
      rcases Bool.eq_false_or_eq_true ((((B86 || (B89 && B92)) || (B97 && B100)) || B109)) with e | e
      · rw [e] at h111
        have E := Lib.hid e
        clear e
        unfold Oper.wp
        go_simp
        exact Stepped.at rfl hd (Below.refl _ _) (FU_mk (.val (cond (gon (true) (x) true) (.bool (((((B86 || (B89 && B92)) || (B97 && B100)) || B109) || B118))) undef)) rfl (by show (_ : Value) = _; rw [HC.out, cond_true]; first | (simp only [E.out, Bool.true_or]; done) | simp [E.out]))
      · rw [e] at h111
        have E := Lib.hid e
        clear e
        have h118 : ac.tmps.getD 118 undef = cond (gon (gon (true) (x) true) ((((B86 || (B89 && B92)) || (B97 && B100)) || B109)) false) (.bool (B118)) undef := ival_at hp 40 118 (by kernel_rfl) rfl
        rw [gon_mk HC.out E.out, cond_true] at h118
        unfold Oper.wp
        go_simp
        exact Stepped.at rfl hd (Below.refl _ _) (FU_mk (.val (cond (gon (true) (x) true) (.bool (((((B86 || (B89 && B92)) || (B97 && B100)) || B109) || B118))) undef)) rfl (by show (_ : Value) = _; rw [HC.out, cond_true]; first | (simp only [E.out, Bool.false_or]; done) | simp [E.out]))
    · intro ac wx hb hd hs ho hp
      refine Or.inl ⟨rfl, ?_⟩
      have h79 : ac.tmps.getD 79 undef = .bool (x) := ival_at hp 1 79 (by kernel_rfl) rfl
      rcases Bool.eq_false_or_eq_true (x) with e | e
      · rw [e] at h79
        have E := Lib.hid e
        clear e
        have h119 : ac.tmps.getD 119 undef = cond (gon (true) (x) true) (.bool (((((B86 || (B89 && B92)) || (B97 && B100)) || B109) || B118))) undef := ival_at hp 41 119 (by kernel_rfl) rfl
        rw [gon_mk rfl E.out, cond_true] at h119
        unfold Oper.wp
        go_simp
        exact Stepped.at rfl hd (Below.refl _ _) (FU_mk (.val (.bool ((x && ((((B86 || (B89 && B92)) || (B97 && B100)) || B109) || B118))))) rfl (by show (_ : Value) = _; first | (simp only [E.out, Bool.true_and]; done) | simp [E.out]))
      · rw [e] at h79
        have E := Lib.hid e
        clear e
        unfold Oper.wp
        go_simp
        exact Stepped.at rfl hd (Below.refl _ _) (FU_mk (.val (.bool ((x && ((((B86 || (B89 && B92)) || (B97 && B100)) || B109) || B118))))) rfl (by show (_ : Value) = _; first | (simp only [E.out, Bool.false_and]; done) | simp [E.out]))
  intro ac wx hJ
  have f120 : ac.tmps.getD 120 undef = .bool ((x && ((((B86 || (B89 && B92)) || (B97 && B100)) || B109) || B118))) := FU_at (.val (.bool ((x && ((((B86 || (B89 && B92)) || (B97 && B100)) || B109) || B118))))) rfl (hJ.at_end 42 120 (by kernel_rfl))
  have e120 : ((x && ((((B86 || (B89 && B92)) || (B97 && B100)) || B109) || B118))) = false := by
    subst hB86 hB89 hB92 hB97 hB100 hB109 hB118
    exact M120.out
  rw [e120] at f120
  clear e120 M120
  have BX := Lib.hid (BW.out.trans (hJ.below.mono BW.out.size))
  clear BW
  have BW := BX
  clear BX
  obtain ⟨u78, f78⟩ : ∃ u, ac.tmps.getD 78 undef = u := ⟨_, rfl⟩
  obtain ⟨u79, f79⟩ : ∃ u, ac.tmps.getD 79 undef = u := ⟨_, rfl⟩
  obtain ⟨u80, f80⟩ : ∃ u, ac.tmps.getD 80 undef = u := ⟨_, rfl⟩
  obtain ⟨u81, f81⟩ : ∃ u, ac.tmps.getD 81 undef = u := ⟨_, rfl⟩
  obtain ⟨u82, f82⟩ : ∃ u, ac.tmps.getD 82 undef = u := ⟨_, rfl⟩
  obtain ⟨u83, f83⟩ : ∃ u, ac.tmps.getD 83 undef = u := ⟨_, rfl⟩
  obtain ⟨u84, f84⟩ : ∃ u, ac.tmps.getD 84 undef = u := ⟨_, rfl⟩
  obtain ⟨u85, f85⟩ : ∃ u, ac.tmps.getD 85 undef = u := ⟨_, rfl⟩
  obtain ⟨u86, f86⟩ : ∃ u, ac.tmps.getD 86 undef = u := ⟨_, rfl⟩
  obtain ⟨u87, f87⟩ : ∃ u, ac.tmps.getD 87 undef = u := ⟨_, rfl⟩
  obtain ⟨u88, f88⟩ : ∃ u, ac.tmps.getD 88 undef = u := ⟨_, rfl⟩
  obtain ⟨u89, f89⟩ : ∃ u, ac.tmps.getD 89 undef = u := ⟨_, rfl⟩
  obtain ⟨u90, f90⟩ : ∃ u, ac.tmps.getD 90 undef = u := ⟨_, rfl⟩
  obtain ⟨u91, f91⟩ : ∃ u, ac.tmps.getD 91 undef = u := ⟨_, rfl⟩
  obtain ⟨u92, f92⟩ : ∃ u, ac.tmps.getD 92 undef = u := ⟨_, rfl⟩
  obtain ⟨u93, f93⟩ : ∃ u, ac.tmps.getD 93 undef = u := ⟨_, rfl⟩
  obtain ⟨u94, f94⟩ : ∃ u, ac.tmps.getD 94 undef = u := ⟨_, rfl⟩
  obtain ⟨u95, f95⟩ : ∃ u, ac.tmps.getD 95 undef = u := ⟨_, rfl⟩
  obtain ⟨u96, f96⟩ : ∃ u, ac.tmps.getD 96 undef = u := ⟨_, rfl⟩
  obtain ⟨u97, f97⟩ : ∃ u, ac.tmps.getD 97 undef = u := ⟨_, rfl⟩
  obtain ⟨u98, f98⟩ : ∃ u, ac.tmps.getD 98 undef = u := ⟨_, rfl⟩
  obtain ⟨u99, f99⟩ : ∃ u, ac.tmps.getD 99 undef = u := ⟨_, rfl⟩
  obtain ⟨u100, f100⟩ : ∃ u, ac.tmps.getD 100 undef = u := ⟨_, rfl⟩
  obtain ⟨u101, f101⟩ : ∃ u, ac.tmps.getD 101 undef = u := ⟨_, rfl⟩
  obtain ⟨u102, f102⟩ : ∃ u, ac.tmps.getD 102 undef = u := ⟨_, rfl⟩
  obtain ⟨u103, f103⟩ : ∃ u, ac.tmps.getD 103 undef = u := ⟨_, rfl⟩
  obtain ⟨u104, f104⟩ : ∃ u, ac.tmps.getD 104 undef = u := ⟨_, rfl⟩
  obtain ⟨u105, f105⟩ : ∃ u, ac.tmps.getD 105 undef = u := ⟨_, rfl⟩
  obtain ⟨u106, f106⟩ : ∃ u, ac.tmps.getD 106 undef = u := ⟨_, rfl⟩
  obtain ⟨u107, f107⟩ : ∃ u, ac.tmps.getD 107 undef = u := ⟨_, rfl⟩
  obtain ⟨u108, f108⟩ : ∃ u, ac.tmps.getD 108 undef = u := ⟨_, rfl⟩
  obtain ⟨u109, f109⟩ : ∃ u, ac.tmps.getD 109 undef = u := ⟨_, rfl⟩
  obtain ⟨u110, f110⟩ : ∃ u, ac.tmps.getD 110 undef = u := ⟨_, rfl⟩
  obtain ⟨u111, f111⟩ : ∃ u, ac.tmps.getD 111 undef = u := ⟨_, rfl⟩
  obtain ⟨u112, f112⟩ : ∃ u, ac.tmps.getD 112 undef = u := ⟨_, rfl⟩
  obtain ⟨u113, f113⟩ : ∃ u, ac.tmps.getD 113 undef = u := ⟨_, rfl⟩
  obtain ⟨u114, f114⟩ : ∃ u, ac.tmps.getD 114 undef = u := ⟨_, rfl⟩
  obtain ⟨u115, f115⟩ : ∃ u, ac.tmps.getD 115 undef = u := ⟨_, rfl⟩
  obtain ⟨u116, f116⟩ : ∃ u, ac.tmps.getD 116 undef = u := ⟨_, rfl⟩
  obtain ⟨u117, f117⟩ : ∃ u, ac.tmps.getD 117 undef = u := ⟨_, rfl⟩
  obtain ⟨u118, f118⟩ : ∃ u, ac.tmps.getD 118 undef = u := ⟨_, rfl⟩
  obtain ⟨u119, f119⟩ : ∃ u, ac.tmps.getD 119 undef = u := ⟨_, rfl⟩
  obtain ⟨T, D⟩ := ac
  obtain rfl : D = [] := hJ.defers
  have hE := slots_merge [false, false, false, false, false, false, false, false, false, false, false, false, false, false, false, false, false, false, false, false, false, false, false, false, false, false, false, false, false, false, false, false, false, false, false, false, false, false, false, false, false, false, false, false, false, false, false, false, false, false, false, false, false, false, false, false, false, false, false, false, false, false, false, false, false, false, false, false, false, false, false, false, false, false, false, false, false, false, true, true, true, true, true, true, true, true, true, true, true, true, true, true, true, true, true, true, true, true, true, true, true, true, true, true, true, true, true, true, true, true, true, true, true, true, true, true, true, true, true, true, true, false, false, false, false, false, false, false, false, false, false, false, false, false, false, false, false, false, false, false, false, false, false, false, false, false, false, false, false, false, false, false, false, false, false, false, false, false, false, false, false, false, false, false, false, false, false, false, false, false, false, false, false, false, false, false, false, false, false, false, false, false, false, false, false, false, false, false, false, false, false, false, false, false, false, false, false, false, false, false, false, false, false, false, false, false, false, false, false, false, false, false, false, false, false, false, false, false, false, false, false, false, false, false, false, false, false, false, false, false, false, false, false, false, false, false, false, false, false, false, false, false, false, false, false, false, false, false, false, false, false, false, false, false, false, false, false, false, false, false, false, false, false, false, false, false, false, false, false, false, false, false, false, false, false, false] 276 hJ.tmps rfl (by kernel_rfl) hJ.outer
  simp only [mergeFrom, Nat.zero_add, Nat.reduceAdd, f78, f79, f80, f81, f82, f83, f84, f85, f86, f87, f88, f89, f90, f91, f92, f93, f94, f95, f96, f97, f98, f99, f100, f101, f102, f103, f104, f105, f106, f107, f108, f109, f110, f111, f112, f113, f114, f115, f116, f117, f118, f119, f120] at hE
  clear hJ f78 f79 f80 f81 f82 f83 f84 f85 f86 f87 f88 f89 f90 f91 f92 f93 f94 f95 f96 f97 f98 f99 f100 f101 f102 f103 f104 f105 f106 f107 f108 f109 f110 f111 f112 f113 f114 f115 f116 f117 f118 f119 f120 hB86 hB89 hB92 hB97 hB100 hB109 hB118
  subst hE
  refine HK2.out _ _ ?_
  clear HK2
  go_wp2_with fail
  refine HK.out _ _ ?_
  clear HK
  refine wp_seq_k fun K hK => ?_
  have HK := Lib.hid hK
  clear hK
  go_wp2_with (go_at_call 10; refine (Cs.out wx).mono ?_)
  rintro e w110 ⟨rfl, b1⟩
  have BX := Lib.hid (BW.out.trans (b1.mono BW.out.size))
  clear b1 BW Cs
  have BW := BX
  clear BX
  go_wp2_with fail
  refine HK.out _ _ ?_
  clear HK
  refine wp_seq_k fun K hK => ?_
  have HK := Lib.hid hK
  clear hK
  go_wp2_with (go_at_call 10; refine (Ct.out w110).mono ?_)
  rintro e w111 ⟨rfl, b1⟩
  have BX := Lib.hid (BW.out.trans (b1.mono BW.out.size))
  clear b1 BW Ct
  have BW := BX
  clear BX
  go_wp2_with fail
  refine HK.out _ _ ?_
  clear HK
  refine wp_seq_k fun K hK => ?_
  have HK := Lib.hid hK
  clear hK
  go_wp2_with (go_at_call 10; refine (Cp.out w111).mono ?_)
  rintro e w112 ⟨rfl, b1⟩
  have BX := Lib.hid (BW.out.trans (b1.mono BW.out.size))
  clear b1 BW Cp
  have BW := BX
  clear BX
  go_wp2_with fail
  refine HK.out _ _ ?_
  clear HK
  refine wp_seq_k fun K hK => ?_
  have HK := Lib.hid hK
  clear hK
  go_wp2_with (go_at_call 10; refine (Cu.out w112).mono ?_)
  rintro e w113 ⟨rfl, b1⟩
  have BX := Lib.hid (BW.out.trans (b1.mono BW.out.size))
  clear b1 BW Cu
  have BW := BX
  clear BX
  go_wp2_with fail
  refine HK.out _ _ ?_
  clear HK
  refine wp_seq_k fun K hK => ?_
  have HK := Lib.hid hK
  clear hK
  go_wp2_with (go_at_call 10; refine (Cd.out w113).mono ?_)
  rintro e w114 ⟨rfl, b1⟩
  have BX := Lib.hid (BW.out.trans (b1.mono BW.out.size))
  clear b1 BW Cd
  have BW := BX
  clear BX
  go_wp2_with fail
  refine HK.out _ _ ?_
  clear HK
  refine wp_seq_k fun K hK => ?_
  have HK := Lib.hid hK
  clear hK
  go_wp2_with (go_at_call 10; refine (Cc.out w114).mono ?_)
  rintro e w115 ⟨rfl, b1⟩
  have BX := Lib.hid (BW.out.trans (b1.mono BW.out.size))
  clear b1 BW Cc
  have BW := BX
  clear BX
  go_wp2_with fail
  refine HK.out _ _ ?_
  clear HK
  refine wp_seq_k fun K hK => ?_
  have HK := Lib.hid hK
  clear hK
  refine wp_seq_k fun K hK => ?_
  have HK2 := Lib.hid hK
  clear hK
  obtain ⟨B164, hB164⟩ : ∃ x : Bool, (((s : Int)) != (t)) = x := ⟨_, rfl⟩
  obtain ⟨B173, hB173⟩ : ∃ x : Bool, (((p : Int)) != (u)) = x := ⟨_, rfl⟩
  obtain ⟨B187, hB187⟩ : ∃ x : Bool, (((s : Int)) != (IntKind.i64.wrap ((a) + (b)))) = x := ⟨_, rfl⟩
  obtain ⟨B197, hB197⟩ : ∃ x : Bool, (((p : Int)) != (IntKind.i64.wrap ((a) * (b)))) = x := ⟨_, rfl⟩
  obtain ⟨B207, hB207⟩ : ∃ x : Bool, (((d : Int)) != (IntKind.i64.wrap ((a) - (b)))) = x := ⟨_, rfl⟩
  obtain ⟨B213, hB213⟩ : ∃ x : Bool, (decide (((b : Int)) ≥ (-2147483647))) = x := ⟨_, rfl⟩
  obtain ⟨B216, hB216⟩ : ∃ x : Bool, (decide (((b : Int)) ≤ (2147483647))) = x := ⟨_, rfl⟩
  obtain ⟨B226, hB226⟩ : ∃ x : Bool, (((c : Int)) != (IntKind.i64.wrap (-(b)))) = x := ⟨_, rfl⟩
  refine wp_region_fix (FU (bdDescs16 a b s t p u d c i j k m n o B164 B173 B187 B197 B207 B213 B216 B226)) (FU_grow _) (by kernel_rfl) (steps_fix ?_) ?_
  · refine ⟨?_, ?_, ?_, ?_, ?_, ?_, ?_, ?_, ?_, ?_, ?_, ?_, ?_, ?_, ?_, ?_, ?_, ?_, ?_, ?_, ?_, ?_, ?_, ?_, ?_, ?_, ?_, ?_, ?_, ?_, ?_, ?_, ?_, ?_, ?_, ?_, ?_, ?_, ?_, ?_, ?_, ?_, ?_, ?_, ?_, ?_, ?_, ?_, ?_, ?_, ?_, ?_, ?_, ?_, ?_, ?_, ?_, ?_, ?_, ?_, ?_, ?_, ?_, ?_, ?_, ?_, ?_, trivial⟩
    · intro ac wx hb hd hs ho hp
      refine Or.inl ⟨rfl, ?_⟩
      have h10 : ac.tmps.getD 10 undef = .int .i64 (s) := (ho 10 (by kernel_rfl)).trans rfl
      unfold Oper.wp
      go_simp
      exact Stepped.at rfl hd (Below.refl _ _) (FU_mk (.val (.int .i64 (s))) rfl (by show (_ : Value) = _; first | rfl | (first | rfl | simp) | (simp [*])))
    · intro ac wx hb hd hs ho hp
      refine Or.inl ⟨rfl, ?_⟩
      have h12 : ac.tmps.getD 12 undef = .int .i64 (t) := (ho 12 (by kernel_rfl)).trans rfl
      unfold Oper.wp
      go_simp
      exact Stepped.at rfl hd (Below.refl _ _) (FU_mk (.val (.int .i64 (t))) rfl (by show (_ : Value) = _; first | rfl | (first | rfl | simp) | (simp [*])))
    · intro ac wx hb hd hs ho hp
      refine Or.inl ⟨rfl, ?_⟩
      have h162 : ac.tmps.getD 162 undef = .int .i64 (s) := ival_at hp 0 162 (by kernel_rfl) rfl
      have h163 : ac.tmps.getD 163 undef = .int .i64 (t) := ival_at hp 1 163 (by kernel_rfl) rfl
      unfold Oper.wp
      go_simp
      exact Stepped.at rfl hd (Below.refl _ _) (FU_mk (.val (.bool (B164))) rfl (by show (_ : Value) = _; first | rfl | (rw [← hB164]; first | rfl | simp) | (simp [*])))
    · intro ac wx hb hd hs ho hp
      refine Or.inl ⟨rfl, ?_⟩
      have h164 : ac.tmps.getD 164 undef = .bool (B164) := ival_at hp 2 164 (by kernel_rfl) rfl
      unfold Oper.wp
      go_simp
      exact Stepped.at rfl hd (Below.refl _ _) (FU_mk (.val (.bool (B164))) rfl (by show (_ : Value) = _; first | rfl | (first | rfl | simp) | (simp [*])))
    · intro ac wx hb hd hs ho hp
      have hg : ac.tmps.getD 165 undef = cond (true) (.bool (B164)) undef := ival_at hp 3 165 (by kernel_rfl) rfl
      rcases Bool.eq_false_or_eq_true (gon (true) (B164) false) with hc | hc
      rotate_left
      · exact Or.inr ⟨(wanted_gon (k := 3) (d := 165) rfl (by kernel_rfl) hg).trans hc, fun d hd => FU_mk (.val _) rfl (by rw [hc]; rfl)⟩
      refine Or.inl ⟨(wanted_gon (k := 3) (d := 165) rfl (by kernel_rfl) hg).trans hc, ?_⟩
      have HC := Lib.hid hc
      clear hg hc
      have h11 : ac.tmps.getD 11 undef = .bool (i) := (ho 11 (by kernel_rfl)).trans rfl
      unfold Oper.wp
      go_simp
      exact Stepped.at rfl hd (Below.refl _ _) (FU_mk (.val (cond (gon (true) (B164) false) (.bool (i)) undef)) rfl (by show (_ : Value) = _; first | rfl | (rw [HC.out]; first | rfl | simp) | (rw [HC.out]; simp [*])))
    · intro ac wx hb hd hs ho hp
      have hg : ac.tmps.getD 165 undef = cond (true) (.bool (B164)) undef := ival_at hp 3 165 (by kernel_rfl) rfl
      rcases Bool.eq_false_or_eq_true (gon (true) (B164) false) with hc | hc
      rotate_left
      · exact Or.inr ⟨(wanted_gon (k := 3) (d := 165) rfl (by kernel_rfl) hg).trans hc, fun d hd => FU_mk (.val _) rfl (by rw [hc]; rfl)⟩
      refine Or.inl ⟨(wanted_gon (k := 3) (d := 165) rfl (by kernel_rfl) hg).trans hc, ?_⟩
      have HC := Lib.hid hc
      clear hg hc
      have h13 : ac.tmps.getD 13 undef = .bool (j) := (ho 13 (by kernel_rfl)).trans rfl
      unfold Oper.wp
      go_simp
      exact Stepped.at rfl hd (Below.refl _ _) (FU_mk (.val (cond (gon (true) (B164) false) (.bool (j)) undef)) rfl (by show (_ : Value) = _; first | rfl | (rw [HC.out]; first | rfl | simp) | (rw [HC.out]; simp [*])))
    · intro ac wx hb hd hs ho hp
      have hg : ac.tmps.getD 165 undef = cond (true) (.bool (B164)) undef := ival_at hp 3 165 (by kernel_rfl) rfl
      rcases Bool.eq_false_or_eq_true (gon (true) (B164) false) with hc | hc
      rotate_left
      · exact Or.inr ⟨(wanted_gon (k := 3) (d := 165) rfl (by kernel_rfl) hg).trans hc, fun d hd => FU_mk (.val _) rfl (by rw [hc]; rfl)⟩
      refine Or.inl ⟨(wanted_gon (k := 3) (d := 165) rfl (by kernel_rfl) hg).trans hc, ?_⟩
      have HC := Lib.hid hc
      clear hg hc
      have h166 : ac.tmps.getD 166 undef = cond (gon (true) (B164) false) (.bool (i)) undef := ival_at hp 4 166 (by kernel_rfl) rfl
      rw [HC.out, cond_true] at h166
      have h167 : ac.tmps.getD 167 undef = cond (gon (true) (B164) false) (.bool (j)) undef := ival_at hp 5 167 (by kernel_rfl) rfl
      rw [HC.out, cond_true] at h167
      unfold Oper.wp
      go_simp
      exact Stepped.at rfl hd (Below.refl _ _) (FU_mk (.val (cond (gon (true) (B164) false) (.bool ((i != j))) undef)) rfl (by show (_ : Value) = _; first | rfl | (rw [HC.out]; first | rfl | simp) | (rw [HC.out]; simp [*])))
    · intro ac wx hb hd hs ho hp
      refine Or.inl ⟨rfl, ?_⟩
      have h165 : ac.tmps.getD 165 undef = .bool (B164) := ival_at hp 3 165 (by kernel_rfl) rfl
      rcases Bool.eq_false_or_eq_true (B164) with e | e
      · rw [e] at h165
        have E := Lib.hid e
        clear e
        unfold Oper.wp
        go_simp
        exact Stepped.at rfl hd (Below.refl _ _) (FU_mk (.val (.bool ((B164 || (i != j))))) rfl (by show (_ : Value) = _; first | (simp only [E.out, Bool.true_or]; done) | simp [E.out]))
      · rw [e] at h165
        have E := Lib.hid e
        clear e
        have h168 : ac.tmps.getD 168 undef = cond (gon (true) (B164) false) (.bool ((i != j))) undef := ival_at hp 6 168 (by kernel_rfl) rfl
        rw [gon_mk rfl E.out, cond_true] at h168
        unfold Oper.wp
        go_simp
        exact Stepped.at rfl hd (Below.refl _ _) (FU_mk (.val (.bool ((B164 || (i != j))))) rfl (by show (_ : Value) = _; first | (simp only [E.out, Bool.false_or]; done) | simp [E.out]))
    · intro ac wx hb hd hs ho hp
      refine Or.inl ⟨rfl, ?_⟩
      have h169 : ac.tmps.getD 169 undef = .bool ((B164 || (i != j))) := ival_at hp 7 169 (by kernel_rfl) rfl
      unfold Oper.wp
      go_simp
      exact Stepped.at rfl hd (Below.refl _ _) (FU_mk (.val (.bool ((B164 || (i != j))))) rfl (by show (_ : Value) = _; first | rfl | (first | rfl | simp) | (simp [*])))
    · intro ac wx hb hd hs ho hp
      have hg : ac.tmps.getD 170 undef = cond (true) (.bool ((B164 || (i != j)))) undef := ival_at hp 8 170 (by kernel_rfl) rfl
      rcases Bool.eq_false_or_eq_true (gon (true) ((B164 || (i != j))) false) with hc | hc
      rotate_left
      · exact Or.inr ⟨(wanted_gon (k := 8) (d := 170) rfl (by kernel_rfl) hg).trans hc, fun d hd => FU_mk (.val _) rfl (by rw [hc]; rfl)⟩
      refine Or.inl ⟨(wanted_gon (k := 8) (d := 170) rfl (by kernel_rfl) hg).trans hc, ?_⟩
      have HC := Lib.hid hc
      clear hg hc
      have h14 : ac.tmps.getD 14 undef = .int .i64 (p) := (ho 14 (by kernel_rfl)).trans rfl
      unfold Oper.wp
      go_simp
      exact Stepped.at rfl hd (Below.refl _ _) (FU_mk (.val (cond (gon (true) ((B164 || (i != j))) false) (.int .i64 (p)) undef)) rfl (by show (_ : Value) = _; first | rfl | (rw [HC.out]; first | rfl | simp) | (rw [HC.out]; simp [*])))
    · intro ac wx hb hd hs ho hp
      have hg : ac.tmps.getD 170 undef = cond (true) (.bool ((B164 || (i != j)))) undef := ival_at hp 8 170 (by kernel_rfl) rfl
      rcases Bool.eq_false_or_eq_true (gon (true) ((B164 || (i != j))) false) with hc | hc
      rotate_left
      · exact Or.inr ⟨(wanted_gon (k := 8) (d := 170) rfl (by kernel_rfl) hg).trans hc, fun d hd => FU_mk (.val _) rfl (by rw [hc]; rfl)⟩
      refine Or.inl ⟨(wanted_gon (k := 8) (d := 170) rfl (by kernel_rfl) hg).trans hc, ?_⟩
      have HC := Lib.hid hc
      clear hg hc
      have h16 : ac.tmps.getD 16 undef = .int .i64 (u) := (ho 16 (by kernel_rfl)).trans rfl
      unfold Oper.wp
      go_simp
      exact Stepped.at rfl hd (Below.refl _ _) (FU_mk (.val (cond (gon (true) ((B164 || (i != j))) false) (.int .i64 (u)) undef)) rfl (by show (_ : Value) = _; first | rfl | (rw [HC.out]; first | rfl | simp) | (rw [HC.out]; simp [*])))
    · intro ac wx hb hd hs ho hp
      have hg : ac.tmps.getD 170 undef = cond (true) (.bool ((B164 || (i != j)))) undef := ival_at hp 8 170 (by kernel_rfl) rfl
      rcases Bool.eq_false_or_eq_true (gon (true) ((B164 || (i != j))) false) with hc | hc
      rotate_left
      · exact Or.inr ⟨(wanted_gon (k := 8) (d := 170) rfl (by kernel_rfl) hg).trans hc, fun d hd => FU_mk (.val _) rfl (by rw [hc]; rfl)⟩
      refine Or.inl ⟨(wanted_gon (k := 8) (d := 170) rfl (by kernel_rfl) hg).trans hc, ?_⟩
      have HC := Lib.hid hc
      clear hg hc
      have h171 : ac.tmps.getD 171 undef = cond (gon (true) ((B164 || (i != j))) false) (.int .i64 (p)) undef := ival_at hp 9 171 (by kernel_rfl) rfl
      rw [HC.out, cond_true] at h171
      have h172 : ac.tmps.getD 172 undef = cond (gon (true) ((B164 || (i != j))) false) (.int .i64 (u)) undef := ival_at hp 10 172 (by kernel_rfl) rfl
      rw [HC.out, cond_true] at h172
      unfold Oper.wp
      go_simp
      exact Stepped.at rfl hd (Below.refl _ _) (FU_mk (.val (cond (gon (true) ((B164 || (i != j))) false) (.bool (B173)) undef)) rfl (by show (_ : Value) = _; first | rfl | (rw [HC.out]; rw [← hB173]; first | rfl | simp) | (rw [HC.out]; simp [*])))
    · intro ac wx hb hd hs ho hp
      refine Or.inl ⟨rfl, ?_⟩
      have h170 : ac.tmps.getD 170 undef = .bool ((B164 || (i != j))) := ival_at hp 8 170 (by kernel_rfl) rfl
      rcases Bool.eq_false_or_eq_true ((B164 || (i != j))) with e | e
      · rw [e] at h170
        have E := Lib.hid e
        clear e
        unfold Oper.wp
        go_simp
        exact Stepped.at rfl hd (Below.refl _ _) (FU_mk (.val (.bool (((B164 || (i != j)) || B173)))) rfl (by show (_ : Value) = _; first | (simp only [E.out, Bool.true_or]; done) | simp [E.out]))
      · rw [e] at h170
        have E := Lib.hid e
        clear e
        have h173 : ac.tmps.getD 173 undef = cond (gon (true) ((B164 || (i != j))) false) (.bool (B173)) undef := ival_at hp 11 173 (by kernel_rfl) rfl
        rw [gon_mk rfl E.out, cond_true] at h173
        unfold Oper.wp
        go_simp
        exact Stepped.at rfl hd (Below.refl _ _) (FU_mk (.val (.bool (((B164 || (i != j)) || B173)))) rfl (by show (_ : Value) = _; first | (simp only [E.out, Bool.false_or]; done) | simp [E.out]))
    · intro ac wx hb hd hs ho hp
      refine Or.inl ⟨rfl, ?_⟩
      have h174 : ac.tmps.getD 174 undef = .bool (((B164 || (i != j)) || B173)) := ival_at hp 12 174 (by kernel_rfl) rfl
      unfold Oper.wp
      go_simp
      exact Stepped.at rfl hd (Below.refl _ _) (FU_mk (.val (.bool (((B164 || (i != j)) || B173)))) rfl (by show (_ : Value) = _; first | rfl | (first | rfl | simp) | (simp [*])))
    · intro ac wx hb hd hs ho hp
      have hg : ac.tmps.getD 175 undef = cond (true) (.bool (((B164 || (i != j)) || B173))) undef := ival_at hp 13 175 (by kernel_rfl) rfl
      rcases Bool.eq_false_or_eq_true (gon (true) (((B164 || (i != j)) || B173)) false) with hc | hc
      rotate_left
      · exact Or.inr ⟨(wanted_gon (k := 13) (d := 175) rfl (by kernel_rfl) hg).trans hc, fun d hd => FU_mk (.val _) rfl (by rw [hc]; rfl)⟩
      refine Or.inl ⟨(wanted_gon (k := 13) (d := 175) rfl (by kernel_rfl) hg).trans hc, ?_⟩
      have HC := Lib.hid hc
      clear hg hc
      have h15 : ac.tmps.getD 15 undef = .bool (k) := (ho 15 (by kernel_rfl)).trans rfl
      unfold Oper.wp
      go_simp
      exact Stepped.at rfl hd (Below.refl _ _) (FU_mk (.val (cond (gon (true) (((B164 || (i != j)) || B173)) false) (.bool (k)) undef)) rfl (by show (_ : Value) = _; first | rfl | (rw [HC.out]; first | rfl | simp) | (rw [HC.out]; simp [*])))
    · intro ac wx hb hd hs ho hp
      have hg : ac.tmps.getD 175 undef = cond (true) (.bool (((B164 || (i != j)) || B173))) undef := ival_at hp 13 175 (by kernel_rfl) rfl
      rcases Bool.eq_false_or_eq_true (gon (true) (((B164 || (i != j)) || B173)) false) with hc | hc
      rotate_left
      · exact Or.inr ⟨(wanted_gon (k := 13) (d := 175) rfl (by kernel_rfl) hg).trans hc, fun d hd => FU_mk (.val _) rfl (by rw [hc]; rfl)⟩
      refine Or.inl ⟨(wanted_gon (k := 13) (d := 175) rfl (by kernel_rfl) hg).trans hc, ?_⟩
      have HC := Lib.hid hc
      clear hg hc
      have h17 : ac.tmps.getD 17 undef = .bool (m) := (ho 17 (by kernel_rfl)).trans rfl
      unfold Oper.wp
      go_simp
      exact Stepped.at rfl hd (Below.refl _ _) (FU_mk (.val (cond (gon (true) (((B164 || (i != j)) || B173)) false) (.bool (m)) undef)) rfl (by show (_ : Value) = _; first | rfl | (rw [HC.out]; first | rfl | simp) | (rw [HC.out]; simp [*])))
    · intro ac wx hb hd hs ho hp
      have hg : ac.tmps.getD 175 undef = cond (true) (.bool (((B164 || (i != j)) || B173))) undef := ival_at hp 13 175 (by kernel_rfl) rfl
      rcases Bool.eq_false_or_eq_true (gon (true) (((B164 || (i != j)) || B173)) false) with hc | hc
      rotate_left
      · exact Or.inr ⟨(wanted_gon (k := 13) (d := 175) rfl (by kernel_rfl) hg).trans hc, fun d hd => FU_mk (.val _) rfl (by rw [hc]; rfl)⟩
      refine Or.inl ⟨(wanted_gon (k := 13) (d := 175) rfl (by kernel_rfl) hg).trans hc, ?_⟩
      have HC := Lib.hid hc
      clear hg hc
      have h176 : ac.tmps.getD 176 undef = cond (gon (true) (((B164 || (i != j)) || B173)) false) (.bool (k)) undef := ival_at hp 14 176 (by kernel_rfl) rfl
      rw [HC.out, cond_true] at h176
      have h177 : ac.tmps.getD 177 undef = cond (gon (true) (((B164 || (i != j)) || B173)) false) (.bool (m)) undef := ival_at hp 15 177 (by kernel_rfl) rfl
      rw [HC.out, cond_true] at h177
      unfold Oper.wp
      go_simp
      exact Stepped.at rfl hd (Below.refl _ _) (FU_mk (.val (cond (gon (true) (((B164 || (i != j)) || B173)) false) (.bool ((k != m))) undef)) rfl (by show (_ : Value) = _; first | rfl | (rw [HC.out]; first | rfl | simp) | (rw [HC.out]; simp [*])))
    · intro ac wx hb hd hs ho hp
      refine Or.inl ⟨rfl, ?_⟩
      have h175 : ac.tmps.getD 175 undef = .bool (((B164 || (i != j)) || B173)) := ival_at hp 13 175 (by kernel_rfl) rfl
      rcases Bool.eq_false_or_eq_true (((B164 || (i != j)) || B173)) with e | e
      · rw [e] at h175
        have E := Lib.hid e
        clear e
        unfold Oper.wp
        go_simp
        exact Stepped.at rfl hd (Below.refl _ _) (FU_mk (.val (.bool ((((B164 || (i != j)) || B173) || (k != m))))) rfl (by show (_ : Value) = _; first | (simp only [E.out, Bool.true_or]; done) | simp [E.out]))
      · rw [e] at h175
        have E := Lib.hid e
        clear e
        have h178 : ac.tmps.getD 178 undef = cond (gon (true) (((B164 || (i != j)) || B173)) false) (.bool ((k != m))) undef := ival_at hp 16 178 (by kernel_rfl) rfl
        rw [gon_mk rfl E.out, cond_true] at h178
        unfold Oper.wp
        go_simp
        exact Stepped.at rfl hd (Below.refl _ _) (FU_mk (.val (.bool ((((B164 || (i != j)) || B173) || (k != m))))) rfl (by show (_ : Value) = _; first | (simp only [E.out, Bool.false_or]; done) | simp [E.out]))
    · intro ac wx hb hd hs ho hp
      refine Or.inl ⟨rfl, ?_⟩
      have h179 : ac.tmps.getD 179 undef = .bool ((((B164 || (i != j)) || B173) || (k != m))) := ival_at hp 17 179 (by kernel_rfl) rfl
      unfold Oper.wp
      go_simp
      exact Stepped.at rfl hd (Below.refl _ _) (FU_mk (.val (.bool ((((B164 || (i != j)) || B173) || (k != m))))) rfl (by show (_ : Value) = _; first | rfl | (first | rfl | simp) | (simp [*])))
    · intro ac wx hb hd hs ho hp
      have hg : ac.tmps.getD 180 undef = cond (true) (.bool ((((B164 || (i != j)) || B173) || (k != m)))) undef := ival_at hp 18 180 (by kernel_rfl) rfl
      rcases Bool.eq_false_or_eq_true (gon (true) ((((B164 || (i != j)) || B173) || (k != m))) false) with hc | hc
      rotate_left
      · exact Or.inr ⟨(wanted_gon (k := 18) (d := 180) rfl (by kernel_rfl) hg).trans hc, fun d hd => FU_mk (.val _) rfl (by rw [hc]; rfl)⟩
      refine Or.inl ⟨(wanted_gon (k := 18) (d := 180) rfl (by kernel_rfl) hg).trans hc, ?_⟩
      have HC := Lib.hid hc
      clear hg hc
      have h11 : ac.tmps.getD 11 undef = .bool (i) := (ho 11 (by kernel_rfl)).trans rfl
      unfold Oper.wp
      go_simp
      exact Stepped.at rfl hd (Below.refl _ _) (FU_mk (.val (cond (gon (true) ((((B164 || (i != j)) || B173) || (k != m))) false) (.bool (i)) undef)) rfl (by show (_ : Value) = _; first | rfl | (rw [HC.out]; first | rfl | simp) | (rw [HC.out]; simp [*])))
    · intro ac wx hb hd hs ho hp
      have hg : ac.tmps.getD 180 undef = cond (true) (.bool ((((B164 || (i != j)) || B173) || (k != m)))) undef := ival_at hp 18 180 (by kernel_rfl) rfl
      rcases Bool.eq_false_or_eq_true (gon (true) ((((B164 || (i != j)) || B173) || (k != m))) false) with hc | hc
      rotate_left
      · exact Or.inr ⟨(wanted_gon (k := 18) (d := 180) rfl (by kernel_rfl) hg).trans hc, fun d hd => FU_mk (.val _) rfl (by rw [hc]; rfl)⟩
      refine Or.inl ⟨(wanted_gon (k := 18) (d := 180) rfl (by kernel_rfl) hg).trans hc, ?_⟩
      have HC := Lib.hid hc
      clear hg hc
      have h181 : ac.tmps.getD 181 undef = cond (gon (true) ((((B164 || (i != j)) || B173) || (k != m))) false) (.bool (i)) undef := ival_at hp 19 181 (by kernel_rfl) rfl
      rw [HC.out, cond_true] at h181
      unfold Oper.wp
      go_simp
      exact Stepped.at rfl hd (Below.refl _ _) (FU_mk (.val (cond (gon (true) ((((B164 || (i != j)) || B173) || (k != m))) false) (.bool (i)) undef)) rfl (by show (_ : Value) = _; first | rfl | (rw [HC.out]; first | rfl | simp) | (rw [HC.out]; simp [*])))
    · intro ac wx hb hd hs ho hp
      have hg : ac.tmps.getD 182 undef = cond (gon (true) ((((B164 || (i != j)) || B173) || (k != m))) false) (.bool (i)) undef := ival_at hp 20 182 (by kernel_rfl) rfl
      rcases Bool.eq_false_or_eq_true (gon (gon (true) ((((B164 || (i != j)) || B173) || (k != m))) false) (i) true) with hc | hc
      rotate_left
      · exact Or.inr ⟨(wanted_gon (k := 20) (d := 182) rfl (by kernel_rfl) hg).trans hc, fun d hd => FU_mk (.val _) rfl (by rw [hc]; rfl)⟩
      refine Or.inl ⟨(wanted_gon (k := 20) (d := 182) rfl (by kernel_rfl) hg).trans hc, ?_⟩
      have HC := Lib.hid hc
      clear hg hc
      have h10 : ac.tmps.getD 10 undef = .int .i64 (s) := (ho 10 (by kernel_rfl)).trans rfl
      unfold Oper.wp
      go_simp
      exact Stepped.at rfl hd (Below.refl _ _) (FU_mk (.val (cond (gon (gon (true) ((((B164 || (i != j)) || B173) || (k != m))) false) (i) true) (.int .i64 (s)) undef)) rfl (by show (_ : Value) = _; first | rfl | (rw [HC.out]; first | rfl | simp) | (rw [HC.out]; simp [*])))
    · intro ac wx hb hd hs ho hp
      have hg : ac.tmps.getD 182 undef = cond (gon (true) ((((B164 || (i != j)) || B173) || (k != m))) false) (.bool (i)) undef := ival_at hp 20 182 (by kernel_rfl) rfl
      rcases Bool.eq_false_or_eq_true (gon (gon (true) ((((B164 || (i != j)) || B173) || (k != m))) false) (i) true) with hc | hc
      rotate_left
      · exact Or.inr ⟨(wanted_gon (k := 20) (d := 182) rfl (by kernel_rfl) hg).trans hc, fun d hd => FU_mk (.val _) rfl (by rw [hc]; rfl)⟩
      refine Or.inl ⟨(wanted_gon (k := 20) (d := 182) rfl (by kernel_rfl) hg).trans hc, ?_⟩
      have HC := Lib.hid hc
      clear hg hc
      have h0 : ac.tmps.getD 0 undef = .int .i64 (a) := (ho 0 (by kernel_rfl)).trans rfl
      unfold Oper.wp
      go_simp
      exact Stepped.at rfl hd (Below.refl _ _) (FU_mk (.val (cond (gon (gon (true) ((((B164 || (i != j)) || B173) || (k != m))) false) (i) true) (.int .i64 (a)) undef)) rfl (by show (_ : Value) = _; first | rfl | (rw [HC.out]; first | rfl | simp) | (rw [HC.out]; simp [*])))
    · intro ac wx hb hd hs ho hp
      have hg : ac.tmps.getD 182 undef = cond (gon (true) ((((B164 || (i != j)) || B173) || (k != m))) false) (.bool (i)) undef := ival_at hp 20 182 (by kernel_rfl) rfl
      rcases Bool.eq_false_or_eq_true (gon (gon (true) ((((B164 || (i != j)) || B173) || (k != m))) false) (i) true) with hc | hc
      rotate_left
      · exact Or.inr ⟨(wanted_gon (k := 20) (d := 182) rfl (by kernel_rfl) hg).trans hc, fun d hd => FU_mk (.val _) rfl (by rw [hc]; rfl)⟩
      refine Or.inl ⟨(wanted_gon (k := 20) (d := 182) rfl (by kernel_rfl) hg).trans hc, ?_⟩
      have HC := Lib.hid hc
      clear hg hc
      have h1 : ac.tmps.getD 1 undef = .int .i64 (b) := (ho 1 (by kernel_rfl)).trans rfl
      unfold Oper.wp
      go_simp
      exact Stepped.at rfl hd (Below.refl _ _) (FU_mk (.val (cond (gon (gon (true) ((((B164 || (i != j)) || B173) || (k != m))) false) (i) true) (.int .i64 (b)) undef)) rfl (by show (_ : Value) = _; first | rfl | (rw [HC.out]; first | rfl | simp) | (rw [HC.out]; simp [*])))
    · intro ac wx hb hd hs ho hp
      have hg : ac.tmps.getD 182 undef = cond (gon (true) ((((B164 || (i != j)) || B173) || (k != m))) false) (.bool (i)) undef := ival_at hp 20 182 (by kernel_rfl) rfl
      rcases Bool.eq_false_or_eq_true (gon (gon (true) ((((B164 || (i != j)) || B173) || (k != m))) false) (i) true) with hc | hc
      rotate_left
      · exact Or.inr ⟨(wanted_gon (k := 20) (d := 182) rfl (by kernel_rfl) hg).trans hc, fun d hd => FU_mk (.val _) rfl (by rw [hc]; rfl)⟩
      refine Or.inl ⟨(wanted_gon (k := 20) (d := 182) rfl (by kernel_rfl) hg).trans hc, ?_⟩
      have HC := Lib.hid hc
      clear hg hc
      have h184 : ac.tmps.getD 184 undef = cond (gon (gon (true) ((((B164 || (i != j)) || B173) || (k != m))) false) (i) true) (.int .i64 (a)) undef := ival_at hp 22 184 (by kernel_rfl) rfl
      rw [HC.out, cond_true] at h184
      have h185 : ac.tmps.getD 185 undef = cond (gon (gon (true) ((((B164 || (i != j)) || B173) || (k != m))) false) (i) true) (.int .i64 (b)) undef := ival_at hp 23 185 (by kernel_rfl) rfl
      rw [HC.out, cond_true] at h185
      unfold Oper.wp
      go_simp
      exact Stepped.at rfl hd (Below.refl _ _) (FU_mk (.val (cond (gon (gon (true) ((((B164 || (i != j)) || B173) || (k != m))) false) (i) true) (.int .i64 (IntKind.i64.wrap ((a) + (b)))) undef)) rfl (by show (_ : Value) = _; first | rfl | (rw [HC.out]; first | rfl | simp) | (rw [HC.out]; simp [*])))
    · intro ac wx hb hd hs ho hp
      have hg : ac.tmps.getD 182 undef = cond (gon (true) ((((B164 || (i != j)) || B173) || (k != m))) false) (.bool (i)) undef := ival_at hp 20 182 (by kernel_rfl) rfl
      rcases Bool.eq_false_or_eq_true (gon (gon (true) ((((B164 || (i != j)) || B173) || (k != m))) false) (i) true) with hc | hc
      rotate_left
      · exact Or.inr ⟨(wanted_gon (k := 20) (d := 182) rfl (by kernel_rfl) hg).trans hc, fun d hd => FU_mk (.val _) rfl (by rw [hc]; rfl)⟩
      refine Or.inl ⟨(wanted_gon (k := 20) (d := 182) rfl (by kernel_rfl) hg).trans hc, ?_⟩
      have HC := Lib.hid hc
      clear hg hc
      have h183 : ac.tmps.getD 183 undef = cond (gon (gon (true) ((((B164 || (i != j)) || B173) || (k != m))) false) (i) true) (.int .i64 (s)) undef := ival_at hp 21 183 (by kernel_rfl) rfl
      rw [HC.out, cond_true] at h183
      have h186 : ac.tmps.getD 186 undef = cond (gon (gon (true) ((((B164 || (i != j)) || B173) || (k != m))) false) (i) true) (.int .i64 (IntKind.i64.wrap ((a) + (b)))) undef := ival_at hp 24 186 (by kernel_rfl) rfl
      rw [HC.out, cond_true] at h186
      unfold Oper.wp
      go_simp
      exact Stepped.at rfl hd (Below.refl _ _) (FU_mk (.val (cond (gon (gon (true) ((((B164 || (i != j)) || B173) || (k != m))) false) (i) true) (.bool (B187)) undef)) rfl (by show (_ : Value) = _; first | rfl | (rw [HC.out]; rw [← hB187]; first | rfl | simp) | (rw [HC.out]; simp [*])))
    · intro ac wx hb hd hs ho hp
      have hg : ac.tmps.getD 180 undef = cond (true) (.bool ((((B164 || (i != j)) || B173) || (k != m)))) undef := ival_at hp 18 180 (by kernel_rfl) rfl
      rcases Bool.eq_false_or_eq_true (gon (true) ((((B164 || (i != j)) || B173) || (k != m))) false) with hc | hc
      rotate_left
      · exact Or.inr ⟨(wanted_gon (k := 18) (d := 180) rfl (by kernel_rfl) hg).trans hc, fun d hd => FU_mk (.val _) rfl (by rw [hc]; rfl)⟩
      refine Or.inl ⟨(wanted_gon (k := 18) (d := 180) rfl (by kernel_rfl) hg).trans hc, ?_⟩
      have HC := Lib.hid hc
      clear hg hc
      have h182 : ac.tmps.getD 182 undef = cond (gon (true) ((((B164 || (i != j)) || B173) || (k != m))) false) (.bool (i)) undef := ival_at hp 20 182 (by kernel_rfl) rfl
      rw [HC.out, cond_true] at h182
      rcases Bool.eq_false_or_eq_true (i) with e | e
      · rw [e] at h182
        have E := Lib.hid e
        clear e
        have h187 : ac.tmps.getD 187 undef = cond (gon (gon (true) ((((B164 || (i != j)) || B173) || (k != m))) false) (i) true) (.bool (B187)) undef := ival_at hp 25 187 (by kernel_rfl) rfl
        rw [gon_mk HC.out E.out, cond_true] at h187
        unfold Oper.wp
        go_simp
        exact Stepped.at rfl hd (Below.refl _ _) (FU_mk (.val (cond (gon (true) ((((B164 || (i != j)) || B173) || (k != m))) false) (.bool ((i && B187))) undef)) rfl (by show (_ : Value) = _; rw [HC.out, cond_true]; first | (simp only [E.out, Bool.true_and]; done) | simp [E.out]))
      · rw [e] at h182
        have E := Lib.hid e
        clear e
        unfold Oper.wp
        go_simp
        exact Stepped.at rfl hd (Below.refl _ _) (FU_mk (.val (cond (gon (true) ((((B164 || (i != j)) || B173) || (k != m))) false) (.bool ((i && B187))) undef)) rfl (by show (_ : Value) = _; rw [HC.out, cond_true]; first | (simp only [E.out, Bool.false_and]; done) | simp [E.out]))
    · intro ac wx hb hd hs ho hp
      refine Or.inl ⟨rfl, ?_⟩
      have h180 : ac.tmps.getD 180 undef = .bool ((((B164 || (i != j)) || B173) || (k != m))) := ival_at hp 18 180 (by kernel_rfl) rfl
      rcases Bool.eq_false_or_eq_true ((((B164 || (i != j)) || B173) || (k != m))) with e | e
      · rw [e] at h180
        have E := Lib.hid e
        clear e
        unfold Oper.wp
        go_simp
        exact Stepped.at rfl hd (Below.refl _ _) (FU_mk (.val (.bool (((((B164 || (i != j)) || B173) || (k != m)) || (i && B187))))) rfl (by show (_ : Value) = _; first | (simp only [E.out, Bool.true_or]; done) | simp [E.out]))
      · rw [e] at h180
        have E := Lib.hid e
        clear e
        have h188 : ac.tmps.getD 188 undef = cond (gon (true) ((((B164 || (i != j)) || B173) || (k != m))) false) (.bool ((i && B187))) undef := ival_at hp 26 188 (by kernel_rfl) rfl
        rw [gon_mk rfl E.out, cond_true] at h188
        unfold Oper.wp
        go_simp
        exact Stepped.at rfl hd (Below.refl _ _) (FU_mk (.val (.bool (((((B164 || (i != j)) || B173) || (k != m)) || (i && B187))))) rfl (by show (_ : Value) = _; first | (simp only [E.out, Bool.false_or]; done) | simp [E.out]))
    · intro ac wx hb hd hs ho hp
      refine Or.inl ⟨rfl, ?_⟩
      have h189 : ac.tmps.getD 189 undef = .bool (((((B164 || (i != j)) || B173) || (k != m)) || (i && B187))) := ival_at hp 27 189 (by kernel_rfl) rfl
      unfold Oper.wp
      go_simp
      exact Stepped.at rfl hd (Below.refl _ _) (FU_mk (.val (.bool (((((B164 || (i != j)) || B173) || (k != m)) || (i && B187))))) rfl (by show (_ : Value) = _; first | rfl | (first | rfl | simp) | (simp [*])))
    · intro ac wx hb hd hs ho hp
      have hg : ac.tmps.getD 190 undef = cond (true) (.bool (((((B164 || (i != j)) || B173) || (k != m)) || (i && B187)))) undef := ival_at hp 28 190 (by kernel_rfl) rfl
      rcases Bool.eq_false_or_eq_true (gon (true) (((((B164 || (i != j)) || B173) || (k != m)) || (i && B187))) false) with hc | hc
      rotate_left
      · exact Or.inr ⟨(wanted_gon (k := 28) (d := 190) rfl (by kernel_rfl) hg).trans hc, fun d hd => FU_mk (.val _) rfl (by rw [hc]; rfl)⟩
      refine Or.inl ⟨(wanted_gon (k := 28) (d := 190) rfl (by kernel_rfl) hg).trans hc, ?_⟩
      have HC := Lib.hid hc
      clear hg hc
      have h15 : ac.tmps.getD 15 undef = .bool (k) := (ho 15 (by kernel_rfl)).trans rfl
      unfold Oper.wp
      go_simp
      exact Stepped.at rfl hd (Below.refl _ _) (FU_mk (.val (cond (gon (true) (((((B164 || (i != j)) || B173) || (k != m)) || (i && B187))) false) (.bool (k)) undef)) rfl (by show (_ : Value) = _; first | rfl | (rw [HC.out]; first | rfl | simp) | (rw [HC.out]; simp [*])))
    · intro ac wx hb hd hs ho hp
      have hg : ac.tmps.getD 190 undef = cond (true) (.bool (((((B164 || (i != j)) || B173) || (k != m)) || (i && B187)))) undef := ival_at hp 28 190 (by kernel_rfl) rfl
      rcases Bool.eq_false_or_eq_true (gon (true) (((((B164 || (i != j)) || B173) || (k != m)) || (i && B187))) false) with hc | hc
      rotate_left
      · exact Or.inr ⟨(wanted_gon (k := 28) (d := 190) rfl (by kernel_rfl) hg).trans hc, fun d hd => FU_mk (.val _) rfl (by rw [hc]; rfl)⟩
      refine Or.inl ⟨(wanted_gon (k := 28) (d := 190) rfl (by kernel_rfl) hg).trans hc, ?_⟩
      have HC := Lib.hid hc
      clear hg hc
      have h191 : ac.tmps.getD 191 undef = cond (gon (true) (((((B164 || (i != j)) || B173) || (k != m)) || (i && B187))) false) (.bool (k)) undef := ival_at hp 29 191 (by kernel_rfl) rfl
      rw [HC.out, cond_true] at h191
      unfold Oper.wp
      go_simp
      exact Stepped.at rfl hd (Below.refl _ _) (FU_mk (.val (cond (gon (true) (((((B164 || (i != j)) || B173) || (k != m)) || (i && B187))) false) (.bool (k)) undef)) rfl (by show (_ : Value) = _; first | rfl | (rw [HC.out]; first | rfl | simp) | (rw [HC.out]; simp [*])))
    · intro ac wx hb hd hs ho hp
      have hg : ac.tmps.getD 192 undef = cond (gon (true) (((((B164 || (i != j)) || B173) || (k != m)) || (i && B187))) false) (.bool (k)) undef := ival_at hp 30 192 (by kernel_rfl) rfl
      rcases Bool.eq_false_or_eq_true (gon (gon (true) (((((B164 || (i != j)) || B173) || (k != m)) || (i && B187))) false) (k) true) with hc | hc
      rotate_left
      · exact Or.inr ⟨(wanted_gon (k := 30) (d := 192) rfl (by kernel_rfl) hg).trans hc, fun d hd => FU_mk (.val _) rfl (by rw [hc]; rfl)⟩
      refine Or.inl ⟨(wanted_gon (k := 30) (d := 192) rfl (by kernel_rfl) hg).trans hc, ?_⟩
      have HC := Lib.hid hc
      clear hg hc
      have h14 : ac.tmps.getD 14 undef = .int .i64 (p) := (ho 14 (by kernel_rfl)).trans rfl
      unfold Oper.wp
      go_simp
      exact Stepped.at rfl hd (Below.refl _ _) (FU_mk (.val (cond (gon (gon (true) (((((B164 || (i != j)) || B173) || (k != m)) || (i && B187))) false) (k) true) (.int .i64 (p)) undef)) rfl (by show (_ : Value) = _; first | rfl | (rw [HC.out]; first | rfl | simp) | (rw [HC.out]; simp [*])))
    · intro ac wx hb hd hs ho hp
      have hg : ac.tmps.getD 192 undef = cond (gon (true) (((((B164 || (i != j)) || B173) || (k != m)) || (i && B187))) false) (.bool (k)) undef := ival_at hp 30 192 (by kernel_rfl) rfl
      rcases Bool.eq_false_or_eq_true (gon (gon (true) (((((B164 || (i != j)) || B173) || (k != m)) || (i && B187))) false) (k) true) with hc | hc
      rotate_left
      · exact Or.inr ⟨(wanted_gon (k := 30) (d := 192) rfl (by kernel_rfl) hg).trans hc, fun d hd => FU_mk (.val _) rfl (by rw [hc]; rfl)⟩
      refine Or.inl ⟨(wanted_gon (k := 30) (d := 192) rfl (by kernel_rfl) hg).trans hc, ?_⟩
      have HC := Lib.hid hc
      clear hg hc
      have h0 : ac.tmps.getD 0 undef = .int .i64 (a) := (ho 0 (by kernel_rfl)).trans rfl
      unfold Oper.wp
      go_simp
      exact Stepped.at rfl hd (Below.refl _ _) (FU_mk (.val (cond (gon (gon (true) (((((B164 || (i != j)) || B173) || (k != m)) || (i && B187))) false) (k) true) (.int .i64 (a)) undef)) rfl (by show (_ : Value) = _; first | rfl | (rw [HC.out]; first | rfl | simp) | (rw [HC.out]; simp [*])))
    · intro ac wx hb hd hs ho hp
      have hg : ac.tmps.getD 192 undef = cond (gon (true) (((((B164 || (i != j)) || B173) || (k != m)) || (i && B187))) false) (.bool (k)) undef := ival_at hp 30 192 (by kernel_rfl) rfl
      rcases Bool.eq_false_or_eq_true (gon (gon (true) (((((B164 || (i != j)) || B173) || (k != m)) || (i && B187))) false) (k) true) with hc | hc
      rotate_left
      · exact Or.inr ⟨(wanted_gon (k := 30) (d := 192) rfl (by kernel_rfl) hg).trans hc, fun d hd => FU_mk (.val _) rfl (by rw [hc]; rfl)⟩
      refine Or.inl ⟨(wanted_gon (k := 30) (d := 192) rfl (by kernel_rfl) hg).trans hc, ?_⟩
      have HC := Lib.hid hc
      clear hg hc
      have h1 : ac.tmps.getD 1 undef = .int .i64 (b) := (ho 1 (by kernel_rfl)).trans rfl
      unfold Oper.wp
      go_simp
      exact Stepped.at rfl hd (Below.refl _ _) (FU_mk (.val (cond (gon (gon (true) (((((B164 || (i != j)) || B173) || (k != m)) || (i && B187))) false) (k) true) (.int .i64 (b)) undef)) rfl (by show (_ : Value) = _; first | rfl | (rw [HC.out]; first | rfl | simp) | (rw [HC.out]; simp [*])))
    · intro ac wx hb hd hs ho hp
      have hg : ac.tmps.getD 192 undef = cond (gon (true) (((((B164 || (i != j)) || B173) || (k != m)) || (i && B187))) false) (.bool (k)) undef := ival_at hp 30 192 (by kernel_rfl) rfl
      rcases Bool.eq_false_or_eq_true (gon (gon (true) (((((B164 || (i != j)) || B173) || (k != m)) || (i && B187))) false) (k) true) with hc | hc
      rotate_left
      · exact Or.inr ⟨(wanted_gon (k := 30) (d := 192) rfl (by kernel_rfl) hg).trans hc, fun d hd => FU_mk (.val _) rfl (by rw [hc]; rfl)⟩
      refine Or.inl ⟨(wanted_gon (k := 30) (d := 192) rfl (by kernel_rfl) hg).trans hc, ?_⟩
      have HC := Lib.hid hc
      clear hg hc
      have h194 : ac.tmps.getD 194 undef = cond (gon (gon (true) (((((B164 || (i != j)) || B173) || (k != m)) || (i && B187))) false) (k) true) (.int .i64 (a)) undef := ival_at hp 32 194 (by kernel_rfl) rfl
      rw [HC.out, cond_true] at h194
      have h195 : ac.tmps.getD 195 undef = cond (gon (gon (true) (((((B164 || (i != j)) || B173) || (k != m)) || (i && B187))) false) (k) true) (.int .i64 (b)) undef := ival_at hp 33 195 (by kernel_rfl) rfl
      rw [HC.out, cond_true] at h195
      unfold Oper.wp
      go_simp
      exact Stepped.at rfl hd (Below.refl _ _) (FU_mk (.val (cond (gon (gon (true) (((((B164 || (i != j)) || B173) || (k != m)) || (i && B187))) false) (k) true) (.int .i64 (IntKind.i64.wrap ((a) * (b)))) undef)) rfl (by show (_ : Value) = _; first | rfl | (rw [HC.out]; first | rfl | simp) | (rw [HC.out]; simp [*])))
    · intro ac wx hb hd hs ho hp
      have hg : ac.tmps.getD 192 undef = cond (gon (true) (((((B164 || (i != j)) || B173) || (k != m)) || (i && B187))) false) (.bool (k)) undef := ival_at hp 30 192 (by kernel_rfl) rfl
      rcases Bool.eq_false_or_eq_true (gon (gon (true) (((((B164 || (i != j)) || B173) || (k != m)) || (i && B187))) false) (k) true) with hc | hc
      rotate_left
      · exact Or.inr ⟨(wanted_gon (k := 30) (d := 192) rfl (by kernel_rfl) hg).trans hc, fun d hd => FU_mk (.val _) rfl (by rw [hc]; rfl)⟩
      refine Or.inl ⟨(wanted_gon (k := 30) (d := 192) rfl (by kernel_rfl) hg).trans hc, ?_⟩
      have HC := Lib.hid hc
      clear hg hc
      have h193 : ac.tmps.getD 193 undef = cond (gon (gon (true) (((((B164 || (i != j)) || B173) || (k != m)) || (i && B187))) false) (k) true) (.int .i64 (p)) undef := ival_at hp 31 193 (by kernel_rfl) rfl
      rw [HC.out, cond_true] at h193
      have h196 : ac.tmps.getD 196 undef = cond (gon (gon (true) (((((B164 || (i != j)) || B173) || (k != m)) || (i && B187))) false) (k) true) (.int .i64 (IntKind.i64.wrap ((a) * (b)))) undef := ival_at hp 34 196 (by kernel_rfl) rfl
      rw [HC.out, cond_true] at h196
      unfold Oper.wp
      go_simp
      exact Stepped.at rfl hd (Below.refl _ _) (FU_mk (.val (cond (gon (gon (true) (((((B164 || (i != j)) || B173) || (k != m)) || (i && B187))) false) (k) true) (.bool (B197)) undef)) rfl (by show (_ : Value) = _; first | rfl | (rw [HC.out]; rw [← hB197]; first | rfl | simp) | (rw [HC.out]; simp [*])))
    · intro ac wx hb hd hs ho hp
      have hg : ac.tmps.getD 190 undef = cond (true) (.bool (((((B164 || (i != j)) || B173) || (k != m)) || (i && B187)))) undef := ival_at hp 28 190 (by kernel_rfl) rfl
      rcases Bool.eq_false_or_eq_true (gon (true) (((((B164 || (i != j)) || B173) || (k != m)) || (i && B187))) false) with hc | hc
      rotate_left
      · exact Or.inr ⟨(wanted_gon (k := 28) (d := 190) rfl (by kernel_rfl) hg).trans hc, fun d hd => FU_mk (.val _) rfl (by rw [hc]; rfl)⟩
      refine Or.inl ⟨(wanted_gon (k := 28) (d := 190) rfl (by kernel_rfl) hg).trans hc, ?_⟩
      have HC := Lib.hid hc
      clear hg hc
      have h192 : ac.tmps.getD 192 undef = cond (gon (true) (((((B164 || (i != j)) || B173) || (k != m)) || (i && B187))) false) (.bool (k)) undef := ival_at hp 30 192 (by kernel_rfl) rfl
      rw [HC.out, cond_true] at h192
      rcases Bool.eq_false_or_eq_true (k) with e | e
      · rw [e] at h192
        have E := Lib.hid e
        clear e
        have h197 : ac.tmps.getD 197 undef = cond (gon (gon (true) (((((B164 || (i != j)) || B173) || (k != m)) || (i && B187))) false) (k) true) (.bool (B197)) undef := ival_at hp 35 197 (by kernel_rfl) rfl
        rw [gon_mk HC.out E.out, cond_true] at h197
        unfold Oper.wp
        go_simp
        exact Stepped.at rfl hd (Below.refl _ _) (FU_mk (.val (cond (gon (true) (((((B164 || (i != j)) || B173) || (k != m)) || (i && B187))) false) (.bool ((k && B197))) undef)) rfl (by show (_ : Value) = _; rw [HC.out, cond_true]; first | (simp only [E.out, Bool.true_and]; done) | simp [E.out]))
      · rw [e] at h192
        have E := Lib.hid e
        clear e
        unfold Oper.wp
        go_simp
        exact Stepped.at rfl hd (Below.refl _ _) (FU_mk (.val (cond (gon (true) (((((B164 || (i != j)) || B173) || (k != m)) || (i && B187))) false) (.bool ((k && B197))) undef)) rfl (by show (_ : Value) = _; rw [HC.out, cond_true]; first | (simp only [E.out, Bool.false_and]; done) | simp [E.out]))
    · intro ac wx hb hd hs ho hp
      refine Or.inl ⟨rfl, ?_⟩
      have h190 : ac.tmps.getD 190 undef = .bool (((((B164 || (i != j)) || B173) || (k != m)) || (i && B187))) := ival_at hp 28 190 (by kernel_rfl) rfl
      rcases Bool.eq_false_or_eq_true (((((B164 || (i != j)) || B173) || (k != m)) || (i && B187))) with e | e
      · rw [e] at h190
        have E := Lib.hid e
        clear e
        unfold Oper.wp
        go_simp
        exact Stepped.at rfl hd (Below.refl _ _) (FU_mk (.val (.bool ((((((B164 || (i != j)) || B173) || (k != m)) || (i && B187)) || (k && B197))))) rfl (by show (_ : Value) = _; first | (simp only [E.out, Bool.true_or]; done) | simp [E.out]))
      · rw [e] at h190
        have E := Lib.hid e
        clear e
        have h198 : ac.tmps.getD 198 undef = cond (gon (true) (((((B164 || (i != j)) || B173) || (k != m)) || (i && B187))) false) (.bool ((k && B197))) undef := ival_at hp 36 198 (by kernel_rfl) rfl
        rw [gon_mk rfl E.out, cond_true] at h198
        unfold Oper.wp
        go_simp
        exact Stepped.at rfl hd (Below.refl _ _) (FU_mk (.val (.bool ((((((B164 || (i != j)) || B173) || (k != m)) || (i && B187)) || (k && B197))))) rfl (by show (_ : Value) = _; first | (simp only [E.out, Bool.false_or]; done) | simp [E.out]))
    · intro ac wx hb hd hs ho hp
      refine Or.inl ⟨rfl, ?_⟩
      have h199 : ac.tmps.getD 199 undef = .bool ((((((B164 || (i != j)) || B173) || (k != m)) || (i && B187)) || (k && B197))) := ival_at hp 37 199 (by kernel_rfl) rfl
      unfold Oper.wp
      go_simp
      exact Stepped.at rfl hd (Below.refl _ _) (FU_mk (.val (.bool ((((((B164 || (i != j)) || B173) || (k != m)) || (i && B187)) || (k && B197))))) rfl (by show (_ : Value) = _; first | rfl | (first | rfl | simp) | (simp [*])))
    · intro ac wx hb hd hs ho hp
      have hg : ac.tmps.getD 200 undef = cond (true) (.bool ((((((B164 || (i != j)) || B173) || (k != m)) || (i && B187)) || (k && B197)))) undef := ival_at hp 38 200 (by kernel_rfl) rfl
      rcases Bool.eq_false_or_eq_true (gon (true) ((((((B164 || (i != j)) || B173) || (k != m)) || (i && B187)) || (k && B197))) false) with hc | hc
      rotate_left
      · exact Or.inr ⟨(wanted_gon (k := 38) (d := 200) rfl (by kernel_rfl) hg).trans hc, fun d hd => FU_mk (.val _) rfl (by rw [hc]; rfl)⟩
      refine Or.inl ⟨(wanted_gon (k := 38) (d := 200) rfl (by kernel_rfl) hg).trans hc, ?_⟩
      have HC := Lib.hid hc
      clear hg hc
      have h19 : ac.tmps.getD 19 undef = .bool (n) := (ho 19 (by kernel_rfl)).trans rfl
      unfold Oper.wp
      go_simp
      exact Stepped.at rfl hd (Below.refl _ _) (FU_mk (.val (cond (gon (true) ((((((B164 || (i != j)) || B173) || (k != m)) || (i && B187)) || (k && B197))) false) (.bool (n)) undef)) rfl (by show (_ : Value) = _; first | rfl | (rw [HC.out]; first | rfl | simp) | (rw [HC.out]; simp [*])))
    · intro ac wx hb hd hs ho hp
      have hg : ac.tmps.getD 200 undef = cond (true) (.bool ((((((B164 || (i != j)) || B173) || (k != m)) || (i && B187)) || (k && B197)))) undef := ival_at hp 38 200 (by kernel_rfl) rfl
      rcases Bool.eq_false_or_eq_true (gon (true) ((((((B164 || (i != j)) || B173) || (k != m)) || (i && B187)) || (k && B197))) false) with hc | hc
      rotate_left
      · exact Or.inr ⟨(wanted_gon (k := 38) (d := 200) rfl (by kernel_rfl) hg).trans hc, fun d hd => FU_mk (.val _) rfl (by rw [hc]; rfl)⟩
      refine Or.inl ⟨(wanted_gon (k := 38) (d := 200) rfl (by kernel_rfl) hg).trans hc, ?_⟩
      have HC := Lib.hid hc
      clear hg hc
      have h201 : ac.tmps.getD 201 undef = cond (gon (true) ((((((B164 || (i != j)) || B173) || (k != m)) || (i && B187)) || (k && B197))) false) (.bool (n)) undef := ival_at hp 39 201 (by kernel_rfl) rfl
      rw [HC.out, cond_true] at h201
      unfold Oper.wp
      go_simp
      exact Stepped.at rfl hd (Below.refl _ _) (FU_mk (.val (cond (gon (true) ((((((B164 || (i != j)) || B173) || (k != m)) || (i && B187)) || (k && B197))) false) (.bool (n)) undef)) rfl (by show (_ : Value) = _; first | rfl | (rw [HC.out]; first | rfl | simp) | (rw [HC.out]; simp [*])))
    · intro ac wx hb hd hs ho hp
      have hg : ac.tmps.getD 202 undef = cond (gon (true) ((((((B164 || (i != j)) || B173) || (k != m)) || (i && B187)) || (k && B197))) false) (.bool (n)) undef := ival_at hp 40 202 (by kernel_rfl) rfl
      rcases Bool.eq_false_or_eq_true (gon (gon (true) ((((((B164 || (i != j)) || B173) || (k != m)) || (i && B187)) || (k && B197))) false) (n) true) with hc | hc
      rotate_left
      · exact Or.inr ⟨(wanted_gon (k := 40) (d := 202) rfl (by kernel_rfl) hg).trans hc, fun d hd => FU_mk (.val _) rfl (by rw [hc]; rfl)⟩
      refine Or.inl ⟨(wanted_gon (k := 40) (d := 202) rfl (by kernel_rfl) hg).trans hc, ?_⟩
      have HC := Lib.hid hc
      clear hg hc
      have h18 : ac.tmps.getD 18 undef = .int .i64 (d) := (ho 18 (by kernel_rfl)).trans rfl
      unfold Oper.wp
      go_simp
      exact Stepped.at rfl hd (Below.refl _ _) (FU_mk (.val (cond (gon (gon (true) ((((((B164 || (i != j)) || B173) || (k != m)) || (i && B187)) || (k && B197))) false) (n) true) (.int .i64 (d)) undef)) rfl (by show (_ : Value) = _; first | rfl | (rw [HC.out]; first | rfl | simp) | (rw [HC.out]; simp [*])))
    · intro ac wx hb hd hs ho hp
      have hg : ac.tmps.getD 202 undef = cond (gon (true) ((((((B164 || (i != j)) || B173) || (k != m)) || (i && B187)) || (k && B197))) false) (.bool (n)) undef := ival_at hp 40 202 (by kernel_rfl) rfl
      rcases Bool.eq_false_or_eq_true (gon (gon (true) ((((((B164 || (i != j)) || B173) || (k != m)) || (i && B187)) || (k && B197))) false) (n) true) with hc | hc
      rotate_left
      · exact Or.inr ⟨(wanted_gon (k := 40) (d := 202) rfl (by kernel_rfl) hg).trans hc, fun d hd => FU_mk (.val _) rfl (by rw [hc]; rfl)⟩
      refine Or.inl ⟨(wanted_gon (k := 40) (d := 202) rfl (by kernel_rfl) hg).trans hc, ?_⟩
      have HC := Lib.hid hc
      clear hg hc
      have h0 : ac.tmps.getD 0 undef = .int .i64 (a) := (ho 0 (by kernel_rfl)).trans rfl
      unfold Oper.wp
      go_simp
      exact Stepped.at rfl hd (Below.refl _ _) (FU_mk (.val (cond (gon (gon (true) ((((((B164 || (i != j)) || B173) || (k != m)) || (i && B187)) || (k && B197))) false) (n) true) (.int .i64 (a)) undef)) rfl (by show (_ : Value) = _; first | rfl | (rw [HC.out]; first | rfl | simp) | (rw [HC.out]; simp [*])))
    · intro ac wx hb hd hs ho hp
      have hg : ac.tmps.getD 202 undef = cond (gon (true) ((((((B164 || (i != j)) || B173) || (k != m)) || (i && B187)) || (k && B197))) false) (.bool (n)) undef := ival_at hp 40 202 (by kernel_rfl) rfl
      rcases Bool.eq_false_or_eq_true (gon (gon (true) ((((((B164 || (i != j)) || B173) || (k != m)) || (i && B187)) || (k && B197))) false) (n) true) with hc | hc
      rotate_left
      · exact Or.inr ⟨(wanted_gon (k := 40) (d := 202) rfl (by kernel_rfl) hg).trans hc, fun d hd => FU_mk (.val _) rfl (by rw [hc]; rfl)⟩
      refine Or.inl ⟨(wanted_gon (k := 40) (d := 202) rfl (by kernel_rfl) hg).trans hc, ?_⟩
      have HC := Lib.hid hc
      clear hg hc
      have h1 : ac.tmps.getD 1 undef = .int .i64 (b) := (ho 1 (by kernel_rfl)).trans rfl
      unfold Oper.wp
      go_simp
      exact Stepped.at rfl hd (Below.refl _ _) (FU_mk (.val (cond (gon (gon (true) ((((((B164 || (i != j)) || B173) || (k != m)) || (i && B187)) || (k && B197))) false) (n) true) (.int .i64 (b)) undef)) rfl (by show (_ : Value) = _; first | rfl | (rw [HC.out]; first | rfl | simp) | (rw [HC.out]; simp [*])))
    · intro ac wx hb hd hs ho hp
      have hg : ac.tmps.getD 202 undef = cond (gon (true) ((((((B164 || (i != j)) || B173) || (k != m)) || (i && B187)) || (k && B197))) false) (.bool (n)) undef := ival_at hp 40 202 (by kernel_rfl) rfl
      rcases Bool.eq_false_or_eq_true (gon (gon (true) ((((((B164 || (i != j)) || B173) || (k != m)) || (i && B187)) || (k && B197))) false) (n) true) with hc | hc
      rotate_left
      · exact Or.inr ⟨(wanted_gon (k := 40) (d := 202) rfl (by kernel_rfl) hg).trans hc, fun d hd => FU_mk (.val _) rfl (by rw [hc]; rfl)⟩
      refine Or.inl ⟨(wanted_gon (k := 40) (d := 202) rfl (by kernel_rfl) hg).trans hc, ?_⟩
      have HC := Lib.hid hc
      clear hg hc
      have h204 : ac.tmps.getD 204 undef = cond (gon (gon (true) ((((((B164 || (i != j)) || B173) || (k != m)) || (i && B187)) || (k && B197))) false) (n) true) (.int .i64 (a)) undef := ival_at hp 42 204 (by kernel_rfl) rfl
      rw [HC.out, cond_true] at h204
      have h205 : ac.tmps.getD 205 undef = cond (gon (gon (true) ((((((B164 || (i != j)) || B173) || (k != m)) || (i && B187)) || (k && B197))) false) (n) true) (.int .i64 (b)) undef := ival_at hp 43 205 (by kernel_rfl) rfl
      rw [HC.out, cond_true] at h205
      unfold Oper.wp
      go_simp
      exact Stepped.at rfl hd (Below.refl _ _) (FU_mk (.val (cond (gon (gon (true) ((((((B164 || (i != j)) || B173) || (k != m)) || (i && B187)) || (k && B197))) false) (n) true) (.int .i64 (IntKind.i64.wrap ((a) - (b)))) undef)) rfl (by show (_ : Value) = _; first | rfl | (rw [HC.out]; first | rfl | simp) | (rw [HC.out]; simp [*])))
    · intro ac wx hb hd hs ho hp
      have hg : ac.tmps.getD 202 undef = cond (gon (true) ((((((B164 || (i != j)) || B173) || (k != m)) || (i && B187)) || (k && B197))) false) (.bool (n)) undef := ival_at hp 40 202 (by kernel_rfl) rfl
      rcases Bool.eq_false_or_eq_true (gon (gon (true) ((((((B164 || (i != j)) || B173) || (k != m)) || (i && B187)) || (k && B197))) false) (n) true) with hc | hc
      rotate_left
      · exact Or.inr ⟨(wanted_gon (k := 40) (d := 202) rfl (by kernel_rfl) hg).trans hc, fun d hd => FU_mk (.val _) rfl (by rw [hc]; rfl)⟩
      refine Or.inl ⟨(wanted_gon (k := 40) (d := 202) rfl (by kernel_rfl) hg).trans hc, ?_⟩
      have HC := Lib.hid hc
      clear hg hc
      have h203 : ac.tmps.getD 203 undef = cond (gon (gon (true) ((((((B164 || (i != j)) || B173) || (k != m)) || (i && B187)) || (k && B197))) false) (n) true) (.int .i64 (d)) undef := ival_at hp 41 203 (by kernel_rfl) rfl
      rw [HC.out, cond_true] at h203
      have h206 : ac.tmps.getD 206 undef = cond (gon (gon (true) ((((((B164 || (i != j)) || B173) || (k != m)) || (i && B187)) || (k && B197))) false) (n) true) (.int .i64 (IntKind.i64.wrap ((a) - (b)))) undef := ival_at hp 44 206 (by kernel_rfl) rfl
      rw [HC.out, cond_true] at h206
      unfold Oper.wp
      go_simp
      exact Stepped.at rfl hd (Below.refl _ _) (FU_mk (.val (cond (gon (gon (true) ((((((B164 || (i != j)) || B173) || (k != m)) || (i && B187)) || (k && B197))) false) (n) true) (.bool (B207)) undef)) rfl (by show (_ : Value) = _; first | rfl | (rw [HC.out]; rw [← hB207]; first | rfl | simp) | (rw [HC.out]; simp [*])))
    · intro ac wx hb hd hs ho hp
      have hg : ac.tmps.getD 200 undef = cond (true) (.bool ((((((B164 || (i != j)) || B173) || (k != m)) || (i && B187)) || (k && B197)))) undef := ival_at hp 38 200 (by kernel_rfl) rfl
      rcases Bool.eq_false_or_eq_true (gon (true) ((((((B164 || (i != j)) || B173) || (k != m)) || (i && B187)) || (k && B197))) false) with hc | hc
      rotate_left
      · exact Or.inr ⟨(wanted_gon (k := 38) (d := 200) rfl (by kernel_rfl) hg).trans hc, fun d hd => FU_mk (.val _) rfl (by rw [hc]; rfl)⟩
      refine Or.inl ⟨(wanted_gon (k := 38) (d := 200) rfl (by kernel_rfl) hg).trans hc, ?_⟩
      have HC := Lib.hid hc
      clear hg hc
      have h202 : ac.tmps.getD 202 undef = cond (gon (true) ((((((B164 || (i != j)) || B173) || (k != m)) || (i && B187)) || (k && B197))) false) (.bool (n)) undef := ival_at hp 40 202 (by kernel_rfl) rfl
      rw [HC.out, cond_true] at h202
      rcases Bool.eq_false_or_eq_true (n) with e | e
      · rw [e] at h202
        have E := Lib.hid e
        clear e
        have h207 : ac.tmps.getD 207 undef = cond (gon (gon (true) ((((((B164 || (i != j)) || B173) || (k != m)) || (i && B187)) || (k && B197))) false) (n) true) (.bool (B207)) undef := ival_at hp 45 207 (by kernel_rfl) rfl
        rw [gon_mk HC.out E.out, cond_true] at h207
        unfold Oper.wp
        go_simp
        exact Stepped.at rfl hd (Below.refl _ _) (FU_mk (.val (cond (gon (true) ((((((B164 || (i != j)) || B173) || (k != m)) || (i && B187)) || (k && B197))) false) (.bool ((n && B207))) undef)) rfl (by show (_ : Value) = _; rw [HC.out, cond_true]; first | (simp only [E.out, Bool.true_and]; done) | simp [E.out]))
      · rw [e] at h202
        have E := Lib.hid e
        clear e
        unfold Oper.wp
        go_simp
        exact Stepped.at rfl hd (Below.refl _ _) (FU_mk (.val (cond (gon (true) ((((((B164 || (i != j)) || B173) || (k != m)) || (i && B187)) || (k && B197))) false) (.bool ((n && B207))) undef)) rfl (by show (_ : Value) = _; rw [HC.out, cond_true]; first | (simp only [E.out, Bool.false_and]; done) | simp [E.out]))
    · intro ac wx hb hd hs ho hp
      refine Or.inl ⟨rfl, ?_⟩
      have h200 : ac.tmps.getD 200 undef = .bool ((((((B164 || (i != j)) || B173) || (k != m)) || (i && B187)) || (k && B197))) := ival_at hp 38 200 (by kernel_rfl) rfl
      rcases Bool.eq_false_or_eq_true ((((((B164 || (i != j)) || B173) || (k != m)) || (i && B187)) || (k && B197))) with e | e
      · rw [e] at h200
        have E := Lib.hid e
        clear e
        unfold Oper.wp
        go_simp
        exact Stepped.at rfl hd (Below.refl _ _) (FU_mk (.val (.bool (((((((B164 || (i != j)) || B173) || (k != m)) || (i && B187)) || (k && B197)) || (n && B207))))) rfl (by show (_ : Value) = _; first | (simp only [E.out, Bool.true_or]; done) | simp [E.out]))
      · rw [e] at h200
        have E := Lib.hid e
        clear e
        have h208 : ac.tmps.getD 208 undef = cond (gon (true) ((((((B164 || (i != j)) || B173) || (k != m)) || (i && B187)) || (k && B197))) false) (.bool ((n && B207))) undef := ival_at hp 46 208 (by kernel_rfl) rfl
        rw [gon_mk rfl E.out, cond_true] at h208
        unfold Oper.wp
        go_simp
        exact Stepped.at rfl hd (Below.refl _ _) (FU_mk (.val (.bool (((((((B164 || (i != j)) || B173) || (k != m)) || (i && B187)) || (k && B197)) || (n && B207))))) rfl (by show (_ : Value) = _; first | (simp only [E.out, Bool.false_or]; done) | simp [E.out]))
    · intro ac wx hb hd hs ho hp
      refine Or.inl ⟨rfl, ?_⟩
      have h209 : ac.tmps.getD 209 undef = .bool (((((((B164 || (i != j)) || B173) || (k != m)) || (i && B187)) || (k && B197)) || (n && B207))) := ival_at hp 47 209 (by kernel_rfl) rfl
      unfold Oper.wp
      go_simp
      exact Stepped.at rfl hd (Below.refl _ _) (FU_mk (.val (.bool (((((((B164 || (i != j)) || B173) || (k != m)) || (i && B187)) || (k && B197)) || (n && B207))))) rfl (by show (_ : Value) = _; first | rfl | (first | rfl | simp) | (simp [*])))
    · intro ac wx hb hd hs ho hp
      have hg : ac.tmps.getD 210 undef = cond (true) (.bool (((((((B164 || (i != j)) || B173) || (k != m)) || (i && B187)) || (k && B197)) || (n && B207)))) undef := ival_at hp 48 210 (by kernel_rfl) rfl
      rcases Bool.eq_false_or_eq_true (gon (true) (((((((B164 || (i != j)) || B173) || (k != m)) || (i && B187)) || (k && B197)) || (n && B207))) false) with hc | hc
      rotate_left
      · exact Or.inr ⟨(wanted_gon (k := 48) (d := 210) rfl (by kernel_rfl) hg).trans hc, fun d hd => FU_mk (.val _) rfl (by rw [hc]; rfl)⟩
      refine Or.inl ⟨(wanted_gon (k := 48) (d := 210) rfl (by kernel_rfl) hg).trans hc, ?_⟩
      have HC := Lib.hid hc
      clear hg hc
      have h21 : ac.tmps.getD 21 undef = .bool (o) := (ho 21 (by kernel_rfl)).trans rfl
      unfold Oper.wp
      go_simp
      exact Stepped.at rfl hd (Below.refl _ _) (FU_mk (.val (cond (gon (true) (((((((B164 || (i != j)) || B173) || (k != m)) || (i && B187)) || (k && B197)) || (n && B207))) false) (.bool (o)) undef)) rfl (by show (_ : Value) = _; first | rfl | (rw [HC.out]; first | rfl | simp) | (rw [HC.out]; simp [*])))
    · intro ac wx hb hd hs ho hp
      have hg : ac.tmps.getD 210 undef = cond (true) (.bool (((((((B164 || (i != j)) || B173) || (k != m)) || (i && B187)) || (k && B197)) || (n && B207)))) undef := ival_at hp 48 210 (by kernel_rfl) rfl
      rcases Bool.eq_false_or_eq_true (gon (true) (((((((B164 || (i != j)) || B173) || (k != m)) || (i && B187)) || (k && B197)) || (n && B207))) false) with hc | hc
      rotate_left
      · exact Or.inr ⟨(wanted_gon (k := 48) (d := 210) rfl (by kernel_rfl) hg).trans hc, fun d hd => FU_mk (.val _) rfl (by rw [hc]; rfl)⟩
      refine Or.inl ⟨(wanted_gon (k := 48) (d := 210) rfl (by kernel_rfl) hg).trans hc, ?_⟩
      have HC := Lib.hid hc
      clear hg hc
      have h1 : ac.tmps.getD 1 undef = .int .i64 (b) := (ho 1 (by kernel_rfl)).trans rfl
      unfold Oper.wp
      go_simp
      exact Stepped.at rfl hd (Below.refl _ _) (FU_mk (.val (cond (gon (true) (((((((B164 || (i != j)) || B173) || (k != m)) || (i && B187)) || (k && B197)) || (n && B207))) false) (.int .i64 (b)) undef)) rfl (by show (_ : Value) = _; first | rfl | (rw [HC.out]; first | rfl | simp) | (rw [HC.out]; simp [*])))
    · intro ac wx hb hd hs ho hp
      have hg : ac.tmps.getD 210 undef = cond (true) (.bool (((((((B164 || (i != j)) || B173) || (k != m)) || (i && B187)) || (k && B197)) || (n && B207)))) undef := ival_at hp 48 210 (by kernel_rfl) rfl
      rcases Bool.eq_false_or_eq_true (gon (true) (((((((B164 || (i != j)) || B173) || (k != m)) || (i && B187)) || (k && B197)) || (n && B207))) false) with hc | hc
      rotate_left
      · exact Or.inr ⟨(wanted_gon (k := 48) (d := 210) rfl (by kernel_rfl) hg).trans hc, fun d hd => FU_mk (.val _) rfl (by rw [hc]; rfl)⟩
      refine Or.inl ⟨(wanted_gon (k := 48) (d := 210) rfl (by kernel_rfl) hg).trans hc, ?_⟩
      have HC := Lib.hid hc
      clear hg hc
      have h212 : ac.tmps.getD 212 undef = cond (gon (true) (((((((B164 || (i != j)) || B173) || (k != m)) || (i && B187)) || (k && B197)) || (n && B207))) false) (.int .i64 (b)) undef := ival_at hp 50 212 (by kernel_rfl) rfl
      rw [HC.out, cond_true] at h212
      unfold Oper.wp
      go_simp
      exact Stepped.at rfl hd (Below.refl _ _) (FU_mk (.val (cond (gon (true) (((((((B164 || (i != j)) || B173) || (k != m)) || (i && B187)) || (k && B197)) || (n && B207))) false) (.bool (B213)) undef)) rfl (by show (_ : Value) = _; first | rfl | (rw [HC.out]; rw [← hB213]; first | rfl | simp) | (rw [HC.out]; simp [*])))
    · intro ac wx hb hd hs ho hp
      have hg : ac.tmps.getD 210 undef = cond (true) (.bool (((((((B164 || (i != j)) || B173) || (k != m)) || (i && B187)) || (k && B197)) || (n && B207)))) undef := ival_at hp 48 210 (by kernel_rfl) rfl
      rcases Bool.eq_false_or_eq_true (gon (true) (((((((B164 || (i != j)) || B173) || (k != m)) || (i && B187)) || (k && B197)) || (n && B207))) false) with hc | hc
      rotate_left
      · exact Or.inr ⟨(wanted_gon (k := 48) (d := 210) rfl (by kernel_rfl) hg).trans hc, fun d hd => FU_mk (.val _) rfl (by rw [hc]; rfl)⟩
      refine Or.inl ⟨(wanted_gon (k := 48) (d := 210) rfl (by kernel_rfl) hg).trans hc, ?_⟩
      have HC := Lib.hid hc
      clear hg hc
      have h213 : ac.tmps.getD 213 undef = cond (gon (true) (((((((B164 || (i != j)) || B173) || (k != m)) || (i && B187)) || (k && B197)) || (n && B207))) false) (.bool (B213)) undef := ival_at hp 51 213 (by kernel_rfl) rfl
      rw [HC.out, cond_true] at h213
      unfold Oper.wp
      go_simp
      exact Stepped.at rfl hd (Below.refl _ _) (FU_mk (.val (cond (gon (true) (((((((B164 || (i != j)) || B173) || (k != m)) || (i && B187)) || (k && B197)) || (n && B207))) false) (.bool (B213)) undef)) rfl (by show (_ : Value) = _; first | rfl | (rw [HC.out]; first | rfl | simp) | (rw [HC.out]; simp [*])))
    · intro ac wx hb hd hs ho hp
      have hg : ac.tmps.getD 214 undef = cond (gon (true) (((((((B164 || (i != j)) || B173) || (k != m)) || (i && B187)) || (k && B197)) || (n && B207))) false) (.bool (B213)) undef := ival_at hp 52 214 (by kernel_rfl) rfl
      rcases Bool.eq_false_or_eq_true (gon (gon (true) (((((((B164 || (i != j)) || B173) || (k != m)) || (i && B187)) || (k && B197)) || (n && B207))) false) (B213) true) with hc | hc
      rotate_left
      · exact Or.inr ⟨(wanted_gon (k := 52) (d := 214) rfl (by kernel_rfl) hg).trans hc, fun d hd => FU_mk (.val _) rfl (by rw [hc]; rfl)⟩
      refine Or.inl ⟨(wanted_gon (k := 52) (d := 214) rfl (by kernel_rfl) hg).trans hc, ?_⟩
      have HC := Lib.hid hc
      clear hg hc
      have h1 : ac.tmps.getD 1 undef = .int .i64 (b) := (ho 1 (by kernel_rfl)).trans rfl
      unfold Oper.wp
      go_simp
      exact Stepped.at rfl hd (Below.refl _ _) (FU_mk (.val (cond (gon (gon (true) (((((((B164 || (i != j)) || B173) || (k != m)) || (i && B187)) || (k && B197)) || (n && B207))) false) (B213) true) (.int .i64 (b)) undef)) rfl (by show (_ : Value) = _; first | rfl | (rw [HC.out]; first | rfl | simp) | (rw [HC.out]; simp [*])))
    · intro ac wx hb hd hs ho hp
      have hg : ac.tmps.getD 214 undef = cond (gon (true) (((((((B164 || (i != j)) || B173) || (k != m)) || (i && B187)) || (k && B197)) || (n && B207))) false) (.bool (B213)) undef := ival_at hp 52 214 (by kernel_rfl) rfl
      rcases Bool.eq_false_or_eq_true (gon (gon (true) (((((((B164 || (i != j)) || B173) || (k != m)) || (i && B187)) || (k && B197)) || (n && B207))) false) (B213) true) with hc | hc
      rotate_left
      · exact Or.inr ⟨(wanted_gon (k := 52) (d := 214) rfl (by kernel_rfl) hg).trans hc, fun d hd => FU_mk (.val _) rfl (by rw [hc]; rfl)⟩
      refine Or.inl ⟨(wanted_gon (k := 52) (d := 214) rfl (by kernel_rfl) hg).trans hc, ?_⟩
      have HC := Lib.hid hc
      clear hg hc
      have h215 : ac.tmps.getD 215 undef = cond (gon (gon (true) (((((((B164 || (i != j)) || B173) || (k != m)) || (i && B187)) || (k && B197)) || (n && B207))) false) (B213) true) (.int .i64 (b)) undef := ival_at hp 53 215 (by kernel_rfl) rfl
      rw [HC.out, cond_true] at h215
      unfold Oper.wp
      go_simp
      exact Stepped.at rfl hd (Below.refl _ _) (FU_mk (.val (cond (gon (gon (true) (((((((B164 || (i != j)) || B173) || (k != m)) || (i && B187)) || (k && B197)) || (n && B207))) false) (B213) true) (.bool (B216)) undef)) rfl (by show (_ : Value) = _; first | rfl | (rw [HC.out]; rw [← hB216]; first | rfl | simp) | (rw [HC.out]; simp [*])))
    · intro ac wx hb hd hs ho hp
      have hg : ac.tmps.getD 210 undef = cond (true) (.bool (((((((B164 || (i != j)) || B173) || (k != m)) || (i && B187)) || (k && B197)) || (n && B207)))) undef := ival_at hp 48 210 (by kernel_rfl) rfl
      rcases Bool.eq_false_or_eq_true (gon (true) (((((((B164 || (i != j)) || B173) || (k != m)) || (i && B187)) || (k && B197)) || (n && B207))) false) with hc | hc
      rotate_left
      · exact Or.inr ⟨(wanted_gon (k := 48) (d := 210) rfl (by kernel_rfl) hg).trans hc, fun d hd => FU_mk (.val _) rfl (by rw [hc]; rfl)⟩
      refine Or.inl ⟨(wanted_gon (k := 48) (d := 210) rfl (by kernel_rfl) hg).trans hc, ?_⟩
      have HC := Lib.hid hc
      clear hg hc
      have h214 : ac.tmps.getD 214 undef = cond (gon (true) (((((((B164 || (i != j)) || B173) || (k != m)) || (i && B187)) || (k && B197)) || (n && B207))) false) (.bool (B213)) undef := ival_at hp 52 214 (by kernel_rfl) rfl
      rw [HC.out, cond_true] at h214
      rcases Bool.eq_false_or_eq_true (B213) with e | e
      · rw [e] at h214
        have E := Lib.hid e
        clear e
        have h216 : ac.tmps.getD 216 undef = cond (gon (gon (true) (((((((B164 || (i != j)) || B173) || (k != m)) || (i && B187)) || (k && B197)) || (n && B207))) false) (B213) true) (.bool (B216)) undef := ival_at hp 54 216 (by kernel_rfl) rfl
        rw [gon_mk HC.out E.out, cond_true] at h216
        unfold Oper.wp
        go_simp
        exact Stepped.at rfl hd (Below.refl _ _) (FU_mk (.val (cond (gon (true) (((((((B164 || (i != j)) || B173) || (k != m)) || (i && B187)) || (k && B197)) || (n && B207))) false) (.bool ((B213 && B216))) undef)) rfl (by show (_ : Value) = _; rw [HC.out, cond_true]; first | (simp only [E.out, Bool.true_and]; done) | simp [E.out]))
      · rw [e] at h214
        have E := Lib.hid e
        clear e
        unfold Oper.wp
        go_simp
        exact Stepped.at rfl hd (Below.refl _ _) (FU_mk (.val (cond (gon (true) (((((((B164 || (i != j)) || B173) || (k != m)) || (i && B187)) || (k && B197)) || (n && B207))) false) (.bool ((B213 && B216))) undef)) rfl (by show (_ : Value) = _; rw [HC.out, cond_true]; first | (simp only [E.out, Bool.false_and]; done) | simp [E.out]))
    · intro ac wx hb hd hs ho hp
      have hg : ac.tmps.getD 210 undef = cond (true) (.bool (((((((B164 || (i != j)) || B173) || (k != m)) || (i && B187)) || (k && B197)) || (n && B207)))) undef := ival_at hp 48 210 (by kernel_rfl) rfl
      rcases Bool.eq_false_or_eq_true (gon (true) (((((((B164 || (i != j)) || B173) || (k != m)) || (i && B187)) || (k && B197)) || (n && B207))) false) with hc | hc
      rotate_left
      · exact Or.inr ⟨(wanted_gon (k := 48) (d := 210) rfl (by kernel_rfl) hg).trans hc, fun d hd => FU_mk (.val _) rfl (by rw [hc]; rfl)⟩
      refine Or.inl ⟨(wanted_gon (k := 48) (d := 210) rfl (by kernel_rfl) hg).trans hc, ?_⟩
      have HC := Lib.hid hc
      clear hg hc
      have h211 : ac.tmps.getD 211 undef = cond (gon (true) (((((((B164 || (i != j)) || B173) || (k != m)) || (i && B187)) || (k && B197)) || (n && B207))) false) (.bool (o)) undef := ival_at hp 49 211 (by kernel_rfl) rfl
      rw [HC.out, cond_true] at h211
      have h217 : ac.tmps.getD 217 undef = cond (gon (true) (((((((B164 || (i != j)) || B173) || (k != m)) || (i && B187)) || (k && B197)) || (n && B207))) false) (.bool ((B213 && B216))) undef := ival_at hp 55 217 (by kernel_rfl) rfl
      rw [HC.out, cond_true] at h217
      unfold Oper.wp
      go_simp
      exact Stepped.at rfl hd (Below.refl _ _) (FU_mk (.val (cond (gon (true) (((((((B164 || (i != j)) || B173) || (k != m)) || (i && B187)) || (k && B197)) || (n && B207))) false) (.bool ((o != (B213 && B216)))) undef)) rfl (by show (_ : Value) = _; first | rfl | (rw [HC.out]; first | rfl | simp) | (rw [HC.out]; simp [*])))
    · intro ac wx hb hd hs ho hp
      refine Or.inl ⟨rfl, ?_⟩
      have h210 : ac.tmps.getD 210 undef = .bool (((((((B164 || (i != j)) || B173) || (k != m)) || (i && B187)) || (k && B197)) || (n && B207))) := ival_at hp 48 210 (by kernel_rfl) rfl
      rcases Bool.eq_false_or_eq_true (((((((B164 || (i != j)) || B173) || (k != m)) || (i && B187)) || (k && B197)) || (n && B207))) with e | e
      · rw [e] at h210
        have E := Lib.hid e
        clear e
        unfold Oper.wp
        go_simp
        exact Stepped.at rfl hd (Below.refl _ _) (FU_mk (.val (.bool ((((((((B164 || (i != j)) || B173) || (k != m)) || (i && B187)) || (k && B197)) || (n && B207)) || (o != (B213 && B216)))))) rfl (by show (_ : Value) = _; first | (simp only [E.out, Bool.true_or]; done) | simp [E.out]))
      · rw [e] at h210
        have E := Lib.hid e
        clear e
        have h218 : ac.tmps.getD 218 undef = cond (gon (true) (((((((B164 || (i != j)) || B173) || (k != m)) || (i && B187)) || (k && B197)) || (n && B207))) false) (.bool ((o != (B213 && B216)))) undef := ival_at hp 56 218 (by kernel_rfl) rfl
        rw [gon_mk rfl E.out, cond_true] at h218
        unfold Oper.wp
        go_simp
        exact Stepped.at rfl hd (Below.refl _ _) (FU_mk (.val (.bool ((((((((B164 || (i != j)) || B173) || (k != m)) || (i && B187)) || (k && B197)) || (n && B207)) || (o != (B213 && B216)))))) rfl (by show (_ : Value) = _; first | (simp only [E.out, Bool.false_or]; done) | simp [E.out]))
    · intro ac wx hb hd hs ho hp
      refine Or.inl ⟨rfl, ?_⟩
      have h219 : ac.tmps.getD 219 undef = .bool ((((((((B164 || (i != j)) || B173) || (k != m)) || (i && B187)) || (k && B197)) || (n && B207)) || (o != (B213 && B216)))) := ival_at hp 57 219 (by kernel_rfl) rfl
      unfold Oper.wp
      go_simp
      exact Stepped.at rfl hd (Below.refl _ _) (FU_mk (.val (.bool ((((((((B164 || (i != j)) || B173) || (k != m)) || (i && B187)) || (k && B197)) || (n && B207)) || (o != (B213 && B216)))))) rfl (by show (_ : Value) = _; first | rfl | (first | rfl | simp) | (simp [*])))
    · intro ac wx hb hd hs ho hp
      have hg : ac.tmps.getD 220 undef = cond (true) (.bool ((((((((B164 || (i != j)) || B173) || (k != m)) || (i && B187)) || (k && B197)) || (n && B207)) || (o != (B213 && B216))))) undef := ival_at hp 58 220 (by kernel_rfl) rfl
      rcases Bool.eq_false_or_eq_true (gon (true) ((((((((B164 || (i != j)) || B173) || (k != m)) || (i && B187)) || (k && B197)) || (n && B207)) || (o != (B213 && B216)))) false) with hc | hc
      rotate_left
      · exact Or.inr ⟨(wanted_gon (k := 58) (d := 220) rfl (by kernel_rfl) hg).trans hc, fun d hd => FU_mk (.val _) rfl (by rw [hc]; rfl)⟩
      refine Or.inl ⟨(wanted_gon (k := 58) (d := 220) rfl (by kernel_rfl) hg).trans hc, ?_⟩
      have HC := Lib.hid hc
      clear hg hc
      have h21 : ac.tmps.getD 21 undef = .bool (o) := (ho 21 (by kernel_rfl)).trans rfl
      unfold Oper.wp
      go_simp
      exact Stepped.at rfl hd (Below.refl _ _) (FU_mk (.val (cond (gon (true) ((((((((B164 || (i != j)) || B173) || (k != m)) || (i && B187)) || (k && B197)) || (n && B207)) || (o != (B213 && B216)))) false) (.bool (o)) undef)) rfl (by show (_ : Value) = _; first | rfl | (rw [HC.out]; first | rfl | simp) | (rw [HC.out]; simp [*])))
    · intro ac wx hb hd hs ho hp
      have hg : ac.tmps.getD 220 undef = cond (true) (.bool ((((((((B164 || (i != j)) || B173) || (k != m)) || (i && B187)) || (k && B197)) || (n && B207)) || (o != (B213 && B216))))) undef := ival_at hp 58 220 (by kernel_rfl) rfl
      rcases Bool.eq_false_or_eq_true (gon (true) ((((((((B164 || (i != j)) || B173) || (k != m)) || (i && B187)) || (k && B197)) || (n && B207)) || (o != (B213 && B216)))) false) with hc | hc
      rotate_left
      · exact Or.inr ⟨(wanted_gon (k := 58) (d := 220) rfl (by kernel_rfl) hg).trans hc, fun d hd => FU_mk (.val _) rfl (by rw [hc]; rfl)⟩
      refine Or.inl ⟨(wanted_gon (k := 58) (d := 220) rfl (by kernel_rfl) hg).trans hc, ?_⟩
      have HC := Lib.hid hc
      clear hg hc
      have h221 : ac.tmps.getD 221 undef = cond (gon (true) ((((((((B164 || (i != j)) || B173) || (k != m)) || (i && B187)) || (k && B197)) || (n && B207)) || (o != (B213 && B216)))) false) (.bool (o)) undef := ival_at hp 59 221 (by kernel_rfl) rfl
      rw [HC.out, cond_true] at h221
      unfold Oper.wp
      go_simp
      exact Stepped.at rfl hd (Below.refl _ _) (FU_mk (.val (cond (gon (true) ((((((((B164 || (i != j)) || B173) || (k != m)) || (i && B187)) || (k && B197)) || (n && B207)) || (o != (B213 && B216)))) false) (.bool (o)) undef)) rfl (by show (_ : Value) = _; first | rfl | (rw [HC.out]; first | rfl | simp) | (rw [HC.out]; simp [*])))
    · intro ac wx hb hd hs ho hp
      have hg : ac.tmps.getD 222 undef = cond (gon (true) ((((((((B164 || (i != j)) || B173) || (k != m)) || (i && B187)) || (k && B197)) || (n && B207)) || (o != (B213 && B216)))) false) (.bool (o)) undef := ival_at hp 60 222 (by kernel_rfl) rfl
      rcases Bool.eq_false_or_eq_true (gon (gon (true) ((((((((B164 || (i != j)) || B173) || (k != m)) || (i && B187)) || (k && B197)) || (n && B207)) || (o != (B213 && B216)))) false) (o) true) with hc | hc
      rotate_left
      · exact Or.inr ⟨(wanted_gon (k := 60) (d := 222) rfl (by kernel_rfl) hg).trans hc, fun d hd => FU_mk (.val _) rfl (by rw [hc]; rfl)⟩
      refine Or.inl ⟨(wanted_gon (k := 60) (d := 222) rfl (by kernel_rfl) hg).trans hc, ?_⟩
      have HC := Lib.hid hc
      clear hg hc
      have h20 : ac.tmps.getD 20 undef = .int .i64 (c) := (ho 20 (by kernel_rfl)).trans rfl
      unfold Oper.wp
      go_simp
      exact Stepped.at rfl hd (Below.refl _ _) (FU_mk (.val (cond (gon (gon (true) ((((((((B164 || (i != j)) || B173) || (k != m)) || (i && B187)) || (k && B197)) || (n && B207)) || (o != (B213 && B216)))) false) (o) true) (.int .i64 (c)) undef)) rfl (by show (_ : Value) = _; first | rfl | (rw [HC.out]; first | rfl | simp) | (rw [HC.out]; simp [*])))
    · intro ac wx hb hd hs ho hp
      have hg : ac.tmps.getD 222 undef = cond (gon (true) ((((((((B164 || (i != j)) || B173) || (k != m)) || (i && B187)) || (k && B197)) || (n && B207)) || (o != (B213 && B216)))) false) (.bool (o)) undef := ival_at hp 60 222 (by kernel_rfl) rfl
      rcases Bool.eq_false_or_eq_true (gon (gon (true) ((((((((B164 || (i != j)) || B173) || (k != m)) || (i && B187)) || (k && B197)) || (n && B207)) || (o != (B213 && B216)))) false) (o) true) with hc | hc
      rotate_left
      · exact Or.inr ⟨(wanted_gon (k := 60) (d := 222) rfl (by kernel_rfl) hg).trans hc, fun d hd => FU_mk (.val _) rfl (by rw [hc]; rfl)⟩
      refine Or.inl ⟨(wanted_gon (k := 60) (d := 222) rfl (by kernel_rfl) hg).trans hc, ?_⟩
      have HC := Lib.hid hc
      clear hg hc
      have h1 : ac.tmps.getD 1 undef = .int .i64 (b) := (ho 1 (by kernel_rfl)).trans rfl
      unfold Oper.wp
      go_simp
      exact Stepped.at rfl hd (Below.refl _ _) (FU_mk (.val (cond (gon (gon (true) ((((((((B164 || (i != j)) || B173) || (k != m)) || (i && B187)) || (k && B197)) || (n && B207)) || (o != (B213 && B216)))) false) (o) true) (.int .i64 (b)) undef)) rfl (by show (_ : Value) = _; first | rfl | (rw [HC.out]; first | rfl | simp) | (rw [HC.out]; simp [*])))
    · intro ac wx hb hd hs ho hp
      have hg : ac.tmps.getD 222 undef = cond (gon (true) ((((((((B164 || (i != j)) || B173) || (k != m)) || (i && B187)) || (k && B197)) || (n && B207)) || (o != (B213 && B216)))) false) (.bool (o)) undef := ival_at hp 60 222 (by kernel_rfl) rfl
      rcases Bool.eq_false_or_eq_true (gon (gon (true) ((((((((B164 || (i != j)) || B173) || (k != m)) || (i && B187)) || (k && B197)) || (n && B207)) || (o != (B213 && B216)))) false) (o) true) with hc | hc
      rotate_left
      · exact Or.inr ⟨(wanted_gon (k := 60) (d := 222) rfl (by kernel_rfl) hg).trans hc, fun d hd => FU_mk (.val _) rfl (by rw [hc]; rfl)⟩
      refine Or.inl ⟨(wanted_gon (k := 60) (d := 222) rfl (by kernel_rfl) hg).trans hc, ?_⟩
      have HC := Lib.hid hc
      clear hg hc
      have h224 : ac.tmps.getD 224 undef = cond (gon (gon (true) ((((((((B164 || (i != j)) || B173) || (k != m)) || (i && B187)) || (k && B197)) || (n && B207)) || (o != (B213 && B216)))) false) (o) true) (.int .i64 (b)) undef := ival_at hp 62 224 (by kernel_rfl) rfl
      rw [HC.out, cond_true] at h224
      unfold Oper.wp
      go_simp
      exact Stepped.at rfl hd (Below.refl _ _) (FU_mk (.val (cond (gon (gon (true) ((((((((B164 || (i != j)) || B173) || (k != m)) || (i && B187)) || (k && B197)) || (n && B207)) || (o != (B213 && B216)))) false) (o) true) (.int .i64 (IntKind.i64.wrap (-(b)))) undef)) rfl (by show (_ : Value) = _; first | rfl | (rw [HC.out]; first | rfl | simp) | (rw [HC.out]; simp [*])))
    · intro ac wx hb hd hs ho hp
      have hg : ac.tmps.getD 222 undef = cond (gon (true) ((((((((B164 || (i != j)) || B173) || (k != m)) || (i && B187)) || (k && B197)) || (n && B207)) || (o != (B213 && B216)))) false) (.bool (o)) undef := ival_at hp 60 222 (by kernel_rfl) rfl
      rcases Bool.eq_false_or_eq_true (gon (gon (true) ((((((((B164 || (i != j)) || B173) || (k != m)) || (i && B187)) || (k && B197)) || (n && B207)) || (o != (B213 && B216)))) false) (o) true) with hc | hc
      rotate_left
      · exact Or.inr ⟨(wanted_gon (k := 60) (d := 222) rfl (by kernel_rfl) hg).trans hc, fun d hd => FU_mk (.val _) rfl (by rw [hc]; rfl)⟩
      refine Or.inl ⟨(wanted_gon (k := 60) (d := 222) rfl (by kernel_rfl) hg).trans hc, ?_⟩
      have HC := Lib.hid hc
      clear hg hc
      have h223 : ac.tmps.getD 223 undef = cond (gon (gon (true) ((((((((B164 || (i != j)) || B173) || (k != m)) || (i && B187)) || (k && B197)) || (n && B207)) || (o != (B213 && B216)))) false) (o) true) (.int .i64 (c)) undef := ival_at hp 61 223 (by kernel_rfl) rfl
      rw [HC.out, cond_true] at h223
      have h225 : ac.tmps.getD 225 undef = cond (gon (gon (true) ((((((((B164 || (i != j)) || B173) || (k != m)) || (i && B187)) || (k && B197)) || (n && B207)) || (o != (B213 && B216)))) false) (o) true) (.int .i64 (IntKind.i64.wrap (-(b)))) undef := ival_at hp 63 225 (by kernel_rfl) rfl
      rw [HC.out, cond_true] at h225
      unfold Oper.wp
      go_simp
      exact Stepped.at rfl hd (Below.refl _ _) (FU_mk (.val (cond (gon (gon (true) ((((((((B164 || (i != j)) || B173) || (k != m)) || (i && B187)) || (k && B197)) || (n && B207)) || (o != (B213 && B216)))) false) (o) true) (.bool (B226)) undef)) rfl (by show (_ : Value) = _; first | rfl | (rw [HC.out]; rw [← hB226]; first | rfl | simp) | (rw [HC.out]; simp [*])))
    · intro ac wx hb hd hs ho hp
      have hg : ac.tmps.getD 220 undef = cond (true) (.bool ((((((((B164 || (i != j)) || B173) || (k != m)) || (i && B187)) || (k && B197)) || (n && B207)) || (o != (B213 && B216))))) undef := ival_at hp 58 220 (by kernel_rfl) rfl
      rcases Bool.eq_false_or_eq_true (gon (true) ((((((((B164 || (i != j)) || B173) || (k != m)) || (i && B187)) || (k && B197)) || (n && B207)) || (o != (B213 && B216)))) false) with hc | hc
      rotate_left
      · exact Or.inr ⟨(wanted_gon (k := 58) (d := 220) rfl (by kernel_rfl) hg).trans hc, fun d hd => FU_mk (.val _) rfl (by rw [hc]; rfl)⟩
      refine Or.inl ⟨(wanted_gon (k := 58) (d := 220) rfl (by kernel_rfl) hg).trans hc, ?_⟩
      have HC := Lib.hid hc
      clear hg hc
      have h222 : ac.tmps.getD 222 undef = cond (gon (true) ((((((((B164 || (i != j)) || B173) || (k != m)) || (i && B187)) || (k && B197)) || (n && B207)) || (o != (B213 && B216)))) false) (.bool (o)) undef := ival_at hp 60 222 (by kernel_rfl) rfl
      rw [HC.out, cond_true] at h222
      rcases Bool.eq_false_or_eq_true (o) with e | e
      · rw [e] at h222
        have E := Lib.hid e
        clear e
        have h226 : ac.tmps.getD 226 undef = cond (gon (gon (true) ((((((((B164 || (i != j)) || B173) || (k != m)) || (i && B187)) || (k && B197)) || (n && B207)) || (o != (B213 && B216)))) false) (o) true) (.bool (B226)) undef := ival_at hp 64 226 (by kernel_rfl) rfl
        rw [gon_mk HC.out E.out, cond_true] at h226
        unfold Oper.wp
        go_simp
        exact Stepped.at rfl hd (Below.refl _ _) (FU_mk (.val (cond (gon (true) ((((((((B164 || (i != j)) || B173) || (k != m)) || (i && B187)) || (k && B197)) || (n && B207)) || (o != (B213 && B216)))) false) (.bool ((o && B226))) undef)) rfl (by show (_ : Value) = _; rw [HC.out, cond_true]; first | (simp only [E.out, Bool.true_and]; done) | simp [E.out]))
      · rw [e] at h222
        have E := Lib.hid e
        clear e
        unfold Oper.wp
        go_simp
        exact Stepped.at rfl hd (Below.refl _ _) (FU_mk (.val (cond (gon (true) ((((((((B164 || (i != j)) || B173) || (k != m)) || (i && B187)) || (k && B197)) || (n && B207)) || (o != (B213 && B216)))) false) (.bool ((o && B226))) undef)) rfl (by show (_ : Value) = _; rw [HC.out, cond_true]; first | (simp only [E.out, Bool.false_and]; done) | simp [E.out]))
    · intro ac wx hb hd hs ho hp
      refine Or.inl ⟨rfl, ?_⟩
      have h220 : ac.tmps.getD 220 undef = .bool ((((((((B164 || (i != j)) || B173) || (k != m)) || (i && B187)) || (k && B197)) || (n && B207)) || (o != (B213 && B216)))) := ival_at hp 58 220 (by kernel_rfl) rfl
      rcases Bool.eq_false_or_eq_true ((((((((B164 || (i != j)) || B173) || (k != m)) || (i && B187)) || (k && B197)) || (n && B207)) || (o != (B213 && B216)))) with e | e
      · rw [e] at h220
        have E := Lib.hid e
        clear e
        unfold Oper.wp
        go_simp
        exact Stepped.at rfl hd (Below.refl _ _) (FU_mk (.val (.bool (((((((((B164 || (i != j)) || B173) || (k != m)) || (i && B187)) || (k && B197)) || (n && B207)) || (o != (B213 && B216))) || (o && B226))))) rfl (by show (_ : Value) = _; first | (simp only [E.out, Bool.true_or]; done) | simp [E.out]))
      · rw [e] at h220
        have E := Lib.hid e
        clear e
        have h227 : ac.tmps.getD 227 undef = cond (gon (true) ((((((((B164 || (i != j)) || B173) || (k != m)) || (i && B187)) || (k && B197)) || (n && B207)) || (o != (B213 && B216)))) false) (.bool ((o && B226))) undef := ival_at hp 65 227 (by kernel_rfl) rfl
        rw [gon_mk rfl E.out, cond_true] at h227
        unfold Oper.wp
        go_simp
        exact Stepped.at rfl hd (Below.refl _ _) (FU_mk (.val (.bool (((((((((B164 || (i != j)) || B173) || (k != m)) || (i && B187)) || (k && B197)) || (n && B207)) || (o != (B213 && B216))) || (o && B226))))) rfl (by show (_ : Value) = _; first | (simp only [E.out, Bool.false_or]; done) | simp [E.out]))
  intro ac wx hJ
  have f228 : ac.tmps.getD 228 undef = .bool (((((((((B164 || (i != j)) || B173) || (k != m)) || (i && B187)) || (k && B197)) || (n && B207)) || (o != (B213 && B216))) || (o && B226))) := FU_at (.val (.bool (((((((((B164 || (i != j)) || B173) || (k != m)) || (i && B187)) || (k && B197)) || (n && B207)) || (o != (B213 && B216))) || (o && B226))))) rfl (hJ.at_end 66 228 (by kernel_rfl))
  have e228 : (((((((((B164 || (i != j)) || B173) || (k != m)) || (i && B187)) || (k && B197)) || (n && B207)) || (o != (B213 && B216))) || (o && B226))) = false := by
    subst hB164 hB173 hB187 hB197 hB207 hB213 hB216 hB226
    exact M228.out
  rw [e228] at f228
  clear e228 M228
  have BX := Lib.hid (BW.out.trans (hJ.below.mono BW.out.size))
  clear BW
  have BW := BX
  clear BX
  obtain ⟨u162, f162⟩ : ∃ u, ac.tmps.getD 162 undef = u := ⟨_, rfl⟩
  obtain ⟨u163, f163⟩ : ∃ u, ac.tmps.getD 163 undef = u := ⟨_, rfl⟩
  obtain ⟨u164, f164⟩ : ∃ u, ac.tmps.getD 164 undef = u := ⟨_, rfl⟩
  obtain ⟨u165, f165⟩ : ∃ u, ac.tmps.getD 165 undef = u := ⟨_, rfl⟩
  obtain ⟨u166, f166⟩ : ∃ u, ac.tmps.getD 166 undef = u := ⟨_, rfl⟩
  obtain ⟨u167, f167⟩ : ∃ u, ac.tmps.getD 167 undef = u := ⟨_, rfl⟩
  obtain ⟨u168, f168⟩ : ∃ u, ac.tmps.getD 168 undef = u := ⟨_, rfl⟩
  obtain ⟨u169, f169⟩ : ∃ u, ac.tmps.getD 169 undef = u := ⟨_, rfl⟩
  obtain ⟨u170, f170⟩ : ∃ u, ac.tmps.getD 170 undef = u := ⟨_, rfl⟩
  obtain ⟨u171, f171⟩ : ∃ u, ac.tmps.getD 171 undef = u := ⟨_, rfl⟩
  obtain ⟨u172, f172⟩ : ∃ u, ac.tmps.getD 172 undef = u := ⟨_, rfl⟩
  obtain ⟨u173, f173⟩ : ∃ u, ac.tmps.getD 173 undef = u := ⟨_, rfl⟩
  obtain ⟨u174, f174⟩ : ∃ u, ac.tmps.getD 174 undef = u := ⟨_, rfl⟩
  obtain ⟨u175, f175⟩ : ∃ u, ac.tmps.getD 175 undef = u := ⟨_, rfl⟩
  obtain ⟨u176, f176⟩ : ∃ u, ac.tmps.getD 176 undef = u := ⟨_, rfl⟩
  obtain ⟨u177, f177⟩ : ∃ u, ac.tmps.getD 177 undef = u := ⟨_, rfl⟩
  obtain ⟨u178, f178⟩ : ∃ u, ac.tmps.getD 178 undef = u := ⟨_, rfl⟩
  obtain ⟨u179, f179⟩ : ∃ u, ac.tmps.getD 179 undef = u := ⟨_, rfl⟩
  obtain ⟨u180, f180⟩ : ∃ u, ac.tmps.getD 180 undef = u := ⟨_, rfl⟩
  obtain ⟨u181, f181⟩ : ∃ u, ac.tmps.getD 181 undef = u := ⟨_, rfl⟩
  obtain ⟨u182, f182⟩ : ∃ u, ac.tmps.getD 182 undef = u := ⟨_, rfl⟩
  obtain ⟨u183, f183⟩ : ∃ u, ac.tmps.getD 183 undef = u := ⟨_, rfl⟩
  obtain ⟨u184, f184⟩ : ∃ u, ac.tmps.getD 184 undef = u := ⟨_, rfl⟩
  obtain ⟨u185, f185⟩ : ∃ u, ac.tmps.getD 185 undef = u := ⟨_, rfl⟩
  obtain ⟨u186, f186⟩ : ∃ u, ac.tmps.getD 186 undef = u := ⟨_, rfl⟩
  obtain ⟨u187, f187⟩ : ∃ u, ac.tmps.getD 187 undef = u := ⟨_, rfl⟩
  obtain ⟨u188, f188⟩ : ∃ u, ac.tmps.getD 188 undef = u := ⟨_, rfl⟩
  obtain ⟨u189, f189⟩ : ∃ u, ac.tmps.getD 189 undef = u := ⟨_, rfl⟩
  obtain ⟨u190, f190⟩ : ∃ u, ac.tmps.getD 190 undef = u := ⟨_, rfl⟩
  obtain ⟨u191, f191⟩ : ∃ u, ac.tmps.getD 191 undef = u := ⟨_, rfl⟩
  obtain ⟨u192, f192⟩ : ∃ u, ac.tmps.getD 192 undef = u := ⟨_, rfl⟩
  obtain ⟨u193, f193⟩ : ∃ u, ac.tmps.getD 193 undef = u := ⟨_, rfl⟩
  obtain ⟨u194, f194⟩ : ∃ u, ac.tmps.getD 194 undef = u := ⟨_, rfl⟩
  obtain ⟨u195, f195⟩ : ∃ u, ac.tmps.getD 195 undef = u := ⟨_, rfl⟩
  obtain ⟨u196, f196⟩ : ∃ u, ac.tmps.getD 196 undef = u := ⟨_, rfl⟩
  obtain ⟨u197, f197⟩ : ∃ u, ac.tmps.getD 197 undef = u := ⟨_, rfl⟩
  obtain ⟨u198, f198⟩ : ∃ u, ac.tmps.getD 198 undef = u := ⟨_, rfl⟩
  obtain ⟨u199, f199⟩ : ∃ u, ac.tmps.getD 199 undef = u := ⟨_, rfl⟩
  obtain ⟨u200, f200⟩ : ∃ u, ac.tmps.getD 200 undef = u := ⟨_, rfl⟩
  obtain ⟨u201, f201⟩ : ∃ u, ac.tmps.getD 201 undef = u := ⟨_, rfl⟩
  obtain ⟨u202, f202⟩ : ∃ u, ac.tmps.getD 202 undef = u := ⟨_, rfl⟩
  obtain ⟨u203, f203⟩ : ∃ u, ac.tmps.getD 203 undef = u := ⟨_, rfl⟩
  obtain ⟨u204, f204⟩ : ∃ u, ac.tmps.getD 204 undef = u := ⟨_, rfl⟩
  obtain ⟨u205, f205⟩ : ∃ u, ac.tmps.getD 205 undef = u := ⟨_, rfl⟩
  obtain ⟨u206, f206⟩ : ∃ u, ac.tmps.getD 206 undef = u := ⟨_, rfl⟩
  obtain ⟨u207, f207⟩ : ∃ u, ac.tmps.getD 207 undef = u := ⟨_, rfl⟩
  obtain ⟨u208, f208⟩ : ∃ u, ac.tmps.getD 208 undef = u := ⟨_, rfl⟩
  obtain ⟨u209, f209⟩ : ∃ u, ac.tmps.getD 209 undef = u := ⟨_, rfl⟩
  obtain ⟨u210, f210⟩ : ∃ u, ac.tmps.getD 210 undef = u := ⟨_, rfl⟩
  obtain ⟨u211, f211⟩ : ∃ u, ac.tmps.getD 211 undef = u := ⟨_, rfl⟩
  obtain ⟨u212, f212⟩ : ∃ u, ac.tmps.getD 212 undef = u := ⟨_, rfl⟩
  obtain ⟨u213, f213⟩ : ∃ u, ac.tmps.getD 213 undef = u := ⟨_, rfl⟩
  obtain ⟨u214, f214⟩ : ∃ u, ac.tmps.getD 214 undef = u := ⟨_, rfl⟩
  obtain ⟨u215, f215⟩ : ∃ u, ac.tmps.getD 215 undef = u := ⟨_, rfl⟩
  obtain ⟨u216, f216⟩ : ∃ u, ac.tmps.getD 216 undef = u := ⟨_, rfl⟩
  obtain ⟨u217, f217⟩ : ∃ u, ac.tmps.getD 217 undef = u := ⟨_, rfl⟩
  obtain ⟨u218, f218⟩ : ∃ u, ac.tmps.getD 218 undef = u := ⟨_, rfl⟩
  obtain ⟨u219, f219⟩ : ∃ u, ac.tmps.getD 219 undef = u := ⟨_, rfl⟩
  obtain ⟨u220, f220⟩ : ∃ u, ac.tmps.getD 220 undef = u := ⟨_, rfl⟩
  obtain ⟨u221, f221⟩ : ∃ u, ac.tmps.getD 221 undef = u := ⟨_, rfl⟩
  obtain ⟨u222, f222⟩ : ∃ u, ac.tmps.getD 222 undef = u := ⟨_, rfl⟩
  obtain ⟨u223, f223⟩ : ∃ u, ac.tmps.getD 223 undef = u := ⟨_, rfl⟩
  obtain ⟨u224, f224⟩ : ∃ u, ac.tmps.getD 224 undef = u := ⟨_, rfl⟩
  obtain ⟨u225, f225⟩ : ∃ u, ac.tmps.getD 225 undef = u := ⟨_, rfl⟩
  obtain ⟨u226, f226⟩ : ∃ u, ac.tmps.getD 226 undef = u := ⟨_, rfl⟩
  obtain ⟨u227, f227⟩ : ∃ u, ac.tmps.getD 227 undef = u := ⟨_, rfl⟩
  obtain ⟨T, D⟩ := ac
  obtain rfl : D = [] := hJ.defers
  have hE := slots_merge [false, false, false, false, false, false, false, false, false, false, false, false, false, false, false, false, false, false, false, false, false, false, false, false, false, false, false, false, false, false, false, false, false, false, false, false, false, false, false, false, false, false, false, false, false, false, false, false, false, false, false, false, false, false, false, false, false, false, false, false, false, false, false, false, false, false, false, false, false, false, false, false, false, false, false, false, false, false, false, false, false, false, false, false, false, false, false, false, false, false, false, false, false, false, false, false, false, false, false, false, false, false, false, false, false, false, false, false, false, false, false, false, false, false, false, false, false, false, false, false, false, false, false, false, false, false, false, false, false, false, false, false, false, false, false, false, false, false, false, false, false, false, false, false, false, false, false, false, false, false, false, false, false, false, false, false, false, false, false, false, false, false, true, true, true, true, true, true, true, true, true, true, true, true, true, true, true, true, true, true, true, true, true, true, true, true, true, true, true, true, true, true, true, true, true, true, true, true, true, true, true, true, true, true, true, true, true, true, true, true, true, true, true, true, true, true, true, true, true, true, true, true, true, true, true, true, true, true, true, false, false, false, false, false, false, false, false, false, false, false, false, false, false, false, false, false, false, false, false, false, false, false, false, false, false, false, false, false, false, false, false, false, false, false, false, false, false, false, false, false, false, false, false, false, false, false] 276 hJ.tmps rfl (by kernel_rfl) hJ.outer
  simp only [mergeFrom, Nat.zero_add, Nat.reduceAdd, f162, f163, f164, f165, f166, f167, f168, f169, f170, f171, f172, f173, f174, f175, f176, f177, f178, f179, f180, f181, f182, f183, f184, f185, f186, f187, f188, f189, f190, f191, f192, f193, f194, f195, f196, f197, f198, f199, f200, f201, f202, f203, f204, f205, f206, f207, f208, f209, f210, f211, f212, f213, f214, f215, f216, f217, f218, f219, f220, f221, f222, f223, f224, f225, f226, f227, f228] at hE
  clear hJ f162 f163 f164 f165 f166 f167 f168 f169 f170 f171 f172 f173 f174 f175 f176 f177 f178 f179 f180 f181 f182 f183 f184 f185 f186 f187 f188 f189 f190 f191 f192 f193 f194 f195 f196 f197 f198 f199 f200 f201 f202 f203 f204 f205 f206 f207 f208 f209 f210 f211 f212 f213 f214 f215 f216 f217 f218 f219 f220 f221 f222 f223 f224 f225 f226 f227 f228 hB164 hB173 hB187 hB197 hB207 hB213 hB216 hB226
  subst hE
  refine HK2.out _ _ ?_
  clear HK2
  go_wp2_with fail
  refine HK.out _ _ ?_
  clear HK
  refine wp_seq_k fun K hK => ?_
  have HK := Lib.hid hK
  clear hK
  go_wp2_with (go_at_call 10; refine (Ce.out wx).mono ?_)
  rintro e w118 ⟨rfl, b1⟩
  have BX := Lib.hid (BW.out.trans (b1.mono BW.out.size))
  clear b1 BW Ce
  have BW := BX
  clear BX
  go_wp2_with fail
  refine HK.out _ _ ?_
  clear HK
  refine wp_seq_k fun K hK => ?_
  have HK := Lib.hid hK
  clear hK
  obtain ⟨B241, hB241⟩ : ∃ x : Bool, (((d : Int)) == (e)) = x := ⟨_, rfl⟩
  obtain ⟨B252, hB252⟩ : ∃ x : Bool, (decide (((IntKind.i64.wrap ((a) + (b)) : Int)) ≥ (-2147483647))) = x := ⟨_, rfl⟩
  obtain ⟨B257, hB257⟩ : ∃ x : Bool, (decide (((IntKind.i64.wrap ((a) + (b)) : Int)) ≤ (2147483647))) = x := ⟨_, rfl⟩
  obtain ⟨B266, hB266⟩ : ∃ x : Bool, (decide (((IntKind.i64.wrap ((a) * (b)) : Int)) ≥ (-2147483647))) = x := ⟨_, rfl⟩
  obtain ⟨B271, hB271⟩ : ∃ x : Bool, (decide (((IntKind.i64.wrap ((a) * (b)) : Int)) ≤ (2147483647))) = x := ⟨_, rfl⟩
  refine wp_region_fix (FU (bdDescs19 a b d e ins i k n f B241 B252 B257 B266 B271)) (FU_grow _) (by kernel_rfl) (steps_fix ?_) ?_
  · refine ⟨?_, ?_, ?_, ?_, ?_, ?_, ?_, ?_, ?_, ?_, ?_, ?_, ?_, ?_, ?_, ?_, ?_, ?_, ?_, ?_, ?_, ?_, ?_, ?_, ?_, ?_, ?_, ?_, ?_, ?_, ?_, ?_, ?_, ?_, ?_, ?_, ?_, ?_, ?_, ?_, ?_, trivial⟩
    · intro ac wx hb hd hs ho hp
      refine Or.inl ⟨rfl, ?_⟩
      have h5 : ac.tmps.getD 5 undef = .bool (ins) := (ho 5 (by kernel_rfl)).trans rfl
      unfold Oper.wp
      go_simp
      exact Stepped.at rfl hd (Below.refl _ _) (FU_mk (.val (.bool (ins))) rfl (by show (_ : Value) = _; first | rfl | (first | rfl | simp) | (simp [*])))
    · intro ac wx hb hd hs ho hp
      refine Or.inl ⟨rfl, ?_⟩
      have h236 : ac.tmps.getD 236 undef = .bool (ins) := ival_at hp 0 236 (by kernel_rfl) rfl
      unfold Oper.wp
      go_simp
      exact Stepped.at rfl hd (Below.refl _ _) (FU_mk (.val (.bool (!(ins)))) rfl (by show (_ : Value) = _; first | rfl | (first | rfl | simp) | (simp [*])))
    · intro ac wx hb hd hs ho hp
      refine Or.inl ⟨rfl, ?_⟩
      have h237 : ac.tmps.getD 237 undef = .bool (!(ins)) := ival_at hp 1 237 (by kernel_rfl) rfl
      unfold Oper.wp
      go_simp
      exact Stepped.at rfl hd (Below.refl _ _) (FU_mk (.val (.bool (!(ins)))) rfl (by show (_ : Value) = _; first | rfl | (first | rfl | simp) | (simp [*])))
    · intro ac wx hb hd hs ho hp
      have hg : ac.tmps.getD 238 undef = cond (true) (.bool (!(ins))) undef := ival_at hp 2 238 (by kernel_rfl) rfl
      rcases Bool.eq_false_or_eq_true (gon (true) (!(ins)) false) with hc | hc
      rotate_left
      · exact Or.inr ⟨(wanted_gon (k := 2) (d := 238) rfl (by kernel_rfl) hg).trans hc, fun d hd => FU_mk (.val _) rfl (by rw [hc]; rfl)⟩
      refine Or.inl ⟨(wanted_gon (k := 2) (d := 238) rfl (by kernel_rfl) hg).trans hc, ?_⟩
      have HC := Lib.hid hc
      clear hg hc
      have h18 : ac.tmps.getD 18 undef = .int .i64 (d) := (ho 18 (by kernel_rfl)).trans rfl
      unfold Oper.wp
      go_simp
      exact Stepped.at rfl hd (Below.refl _ _) (FU_mk (.val (cond (gon (true) (!(ins)) false) (.int .i64 (d)) undef)) rfl (by show (_ : Value) = _; first | rfl | (rw [HC.out]; first | rfl | simp) | (rw [HC.out]; simp [*])))
    · intro ac wx hb hd hs ho hp
      have hg : ac.tmps.getD 238 undef = cond (true) (.bool (!(ins))) undef := ival_at hp 2 238 (by kernel_rfl) rfl
      rcases Bool.eq_false_or_eq_true (gon (true) (!(ins)) false) with hc | hc
      rotate_left
      · exact Or.inr ⟨(wanted_gon (k := 2) (d := 238) rfl (by kernel_rfl) hg).trans hc, fun d hd => FU_mk (.val _) rfl (by rw [hc]; rfl)⟩
      refine Or.inl ⟨(wanted_gon (k := 2) (d := 238) rfl (by kernel_rfl) hg).trans hc, ?_⟩
      have HC := Lib.hid hc
      clear hg hc
      have h22 : ac.tmps.getD 22 undef = .int .i64 (e) := (ho 22 (by kernel_rfl)).trans rfl
      unfold Oper.wp
      go_simp
      exact Stepped.at rfl hd (Below.refl _ _) (FU_mk (.val (cond (gon (true) (!(ins)) false) (.int .i64 (e)) undef)) rfl (by show (_ : Value) = _; first | rfl | (rw [HC.out]; first | rfl | simp) | (rw [HC.out]; simp [*])))
    · intro ac wx hb hd hs ho hp
      have hg : ac.tmps.getD 238 undef = cond (true) (.bool (!(ins))) undef := ival_at hp 2 238 (by kernel_rfl) rfl
      rcases Bool.eq_false_or_eq_true (gon (true) (!(ins)) false) with hc | hc
      rotate_left
      · exact Or.inr ⟨(wanted_gon (k := 2) (d := 238) rfl (by kernel_rfl) hg).trans hc, fun d hd => FU_mk (.val _) rfl (by rw [hc]; rfl)⟩
      refine Or.inl ⟨(wanted_gon (k := 2) (d := 238) rfl (by kernel_rfl) hg).trans hc, ?_⟩
      have HC := Lib.hid hc
      clear hg hc
      have h239 : ac.tmps.getD 239 undef = cond (gon (true) (!(ins)) false) (.int .i64 (d)) undef := ival_at hp 3 239 (by kernel_rfl) rfl
      rw [HC.out, cond_true] at h239
      have h240 : ac.tmps.getD 240 undef = cond (gon (true) (!(ins)) false) (.int .i64 (e)) undef := ival_at hp 4 240 (by kernel_rfl) rfl
      rw [HC.out, cond_true] at h240
      unfold Oper.wp
      go_simp
      exact Stepped.at rfl hd (Below.refl _ _) (FU_mk (.val (cond (gon (true) (!(ins)) false) (.bool (B241)) undef)) rfl (by show (_ : Value) = _; first | rfl | (rw [HC.out]; rw [← hB241]; first | rfl | simp) | (rw [HC.out]; simp [*])))
    · intro ac wx hb hd hs ho hp
      have hg : ac.tmps.getD 238 undef = cond (true) (.bool (!(ins))) undef := ival_at hp 2 238 (by kernel_rfl) rfl
      rcases Bool.eq_false_or_eq_true (gon (true) (!(ins)) false) with hc | hc
      rotate_left
      · exact Or.inr ⟨(wanted_gon (k := 2) (d := 238) rfl (by kernel_rfl) hg).trans hc, fun d hd => FU_mk (.val _) rfl (by rw [hc]; rfl)⟩
      refine Or.inl ⟨(wanted_gon (k := 2) (d := 238) rfl (by kernel_rfl) hg).trans hc, ?_⟩
      have HC := Lib.hid hc
      clear hg hc
      have h241 : ac.tmps.getD 241 undef = cond (gon (true) (!(ins)) false) (.bool (B241)) undef := ival_at hp 5 241 (by kernel_rfl) rfl
      rw [HC.out, cond_true] at h241
      unfold Oper.wp
      go_simp
      exact Stepped.at rfl hd (Below.refl _ _) (FU_mk (.val (cond (gon (true) (!(ins)) false) (.bool (B241)) undef)) rfl (by show (_ : Value) = _; first | rfl | (rw [HC.out]; first | rfl | simp) | (rw [HC.out]; simp [*])))
    · intro ac wx hb hd hs ho hp
      have hg : ac.tmps.getD 242 undef = cond (gon (true) (!(ins)) false) (.bool (B241)) undef := ival_at hp 6 242 (by kernel_rfl) rfl
      rcases Bool.eq_false_or_eq_true (gon (gon (true) (!(ins)) false) (B241) true) with hc | hc
      rotate_left
      · exact Or.inr ⟨(wanted_gon (k := 6) (d := 242) rfl (by kernel_rfl) hg).trans hc, fun d hd => FU_mk (.val _) rfl (by rw [hc]; rfl)⟩
      refine Or.inl ⟨(wanted_gon (k := 6) (d := 242) rfl (by kernel_rfl) hg).trans hc, ?_⟩
      have HC := Lib.hid hc
      clear hg hc
      have h19 : ac.tmps.getD 19 undef = .bool (n) := (ho 19 (by kernel_rfl)).trans rfl
      unfold Oper.wp
      go_simp
      exact Stepped.at rfl hd (Below.refl _ _) (FU_mk (.val (cond (gon (gon (true) (!(ins)) false) (B241) true) (.bool (n)) undef)) rfl (by show (_ : Value) = _; first | rfl | (rw [HC.out]; first | rfl | simp) | (rw [HC.out]; simp [*])))
    · intro ac wx hb hd hs ho hp
      have hg : ac.tmps.getD 242 undef = cond (gon (true) (!(ins)) false) (.bool (B241)) undef := ival_at hp 6 242 (by kernel_rfl) rfl
      rcases Bool.eq_false_or_eq_true (gon (gon (true) (!(ins)) false) (B241) true) with hc | hc
      rotate_left
      · exact Or.inr ⟨(wanted_gon (k := 6) (d := 242) rfl (by kernel_rfl) hg).trans hc, fun d hd => FU_mk (.val _) rfl (by rw [hc]; rfl)⟩
      refine Or.inl ⟨(wanted_gon (k := 6) (d := 242) rfl (by kernel_rfl) hg).trans hc, ?_⟩
      have HC := Lib.hid hc
      clear hg hc
      have h23 : ac.tmps.getD 23 undef = .bool (f) := (ho 23 (by kernel_rfl)).trans rfl
      unfold Oper.wp
      go_simp
      exact Stepped.at rfl hd (Below.refl _ _) (FU_mk (.val (cond (gon (gon (true) (!(ins)) false) (B241) true) (.bool (f)) undef)) rfl (by show (_ : Value) = _; first | rfl | (rw [HC.out]; first | rfl | simp) | (rw [HC.out]; simp [*])))
    · intro ac wx hb hd hs ho hp
      have hg : ac.tmps.getD 242 undef = cond (gon (true) (!(ins)) false) (.bool (B241)) undef := ival_at hp 6 242 (by kernel_rfl) rfl
      rcases Bool.eq_false_or_eq_true (gon (gon (true) (!(ins)) false) (B241) true) with hc | hc
      rotate_left
      · exact Or.inr ⟨(wanted_gon (k := 6) (d := 242) rfl (by kernel_rfl) hg).trans hc, fun d hd => FU_mk (.val _) rfl (by rw [hc]; rfl)⟩
      refine Or.inl ⟨(wanted_gon (k := 6) (d := 242) rfl (by kernel_rfl) hg).trans hc, ?_⟩
      have HC := Lib.hid hc
      clear hg hc
      have h243 : ac.tmps.getD 243 undef = cond (gon (gon (true) (!(ins)) false) (B241) true) (.bool (n)) undef := ival_at hp 7 243 (by kernel_rfl) rfl
      rw [HC.out, cond_true] at h243
      have h244 : ac.tmps.getD 244 undef = cond (gon (gon (true) (!(ins)) false) (B241) true) (.bool (f)) undef := ival_at hp 8 244 (by kernel_rfl) rfl
      rw [HC.out, cond_true] at h244
      unfold Oper.wp
      go_simp
      exact Stepped.at rfl hd (Below.refl _ _) (FU_mk (.val (cond (gon (gon (true) (!(ins)) false) (B241) true) (.bool ((n == f))) undef)) rfl (by show (_ : Value) = _; first | rfl | (rw [HC.out]; first | rfl | simp) | (rw [HC.out]; simp [*])))
    · intro ac wx hb hd hs ho hp
      have hg : ac.tmps.getD 238 undef = cond (true) (.bool (!(ins))) undef := ival_at hp 2 238 (by kernel_rfl) rfl
      rcases Bool.eq_false_or_eq_true (gon (true) (!(ins)) false) with hc | hc
      rotate_left
      · exact Or.inr ⟨(wanted_gon (k := 2) (d := 238) rfl (by kernel_rfl) hg).trans hc, fun d hd => FU_mk (.val _) rfl (by rw [hc]; rfl)⟩
      refine Or.inl ⟨(wanted_gon (k := 2) (d := 238) rfl (by kernel_rfl) hg).trans hc, ?_⟩
      have HC := Lib.hid hc
      clear hg hc
      have h242 : ac.tmps.getD 242 undef = cond (gon (true) (!(ins)) false) (.bool (B241)) undef := ival_at hp 6 242 (by kernel_rfl) rfl
      rw [HC.out, cond_true] at h242
      rcases Bool.eq_false_or_eq_true (B241) with e | e
      · rw [e] at h242
        have E := Lib.hid e
        clear e
        have h245 : ac.tmps.getD 245 undef = cond (gon (gon (true) (!(ins)) false) (B241) true) (.bool ((n == f))) undef := ival_at hp 9 245 (by kernel_rfl) rfl
        rw [gon_mk HC.out E.out, cond_true] at h245
        unfold Oper.wp
        go_simp
        exact Stepped.at rfl hd (Below.refl _ _) (FU_mk (.val (cond (gon (true) (!(ins)) false) (.bool ((B241 && (n == f)))) undef)) rfl (by show (_ : Value) = _; rw [HC.out, cond_true]; first | (simp only [E.out, Bool.true_and]; done) | simp [E.out]))
      · rw [e] at h242
        have E := Lib.hid e
        clear e
        unfold Oper.wp
        go_simp
        exact Stepped.at rfl hd (Below.refl _ _) (FU_mk (.val (cond (gon (true) (!(ins)) false) (.bool ((B241 && (n == f)))) undef)) rfl (by show (_ : Value) = _; rw [HC.out, cond_true]; first | (simp only [E.out, Bool.false_and]; done) | simp [E.out]))
    · intro ac wx hb hd hs ho hp
      have hg : ac.tmps.getD 238 undef = cond (true) (.bool (!(ins))) undef := ival_at hp 2 238 (by kernel_rfl) rfl
      rcases Bool.eq_false_or_eq_true (gon (true) (!(ins)) false) with hc | hc
      rotate_left
      · exact Or.inr ⟨(wanted_gon (k := 2) (d := 238) rfl (by kernel_rfl) hg).trans hc, fun d hd => FU_mk (.val _) rfl (by rw [hc]; rfl)⟩
      refine Or.inl ⟨(wanted_gon (k := 2) (d := 238) rfl (by kernel_rfl) hg).trans hc, ?_⟩
      have HC := Lib.hid hc
      clear hg hc
      have h246 : ac.tmps.getD 246 undef = cond (gon (true) (!(ins)) false) (.bool ((B241 && (n == f)))) undef := ival_at hp 10 246 (by kernel_rfl) rfl
      rw [HC.out, cond_true] at h246
      unfold Oper.wp
      go_simp
      exact Stepped.at rfl hd (Below.refl _ _) (FU_mk (.val (cond (gon (true) (!(ins)) false) (.bool ((B241 && (n == f)))) undef)) rfl (by show (_ : Value) = _; first | rfl | (rw [HC.out]; first | rfl | simp) | (rw [HC.out]; simp [*])))
    · intro ac wx hb hd hs ho hp
      have hg : ac.tmps.getD 247 undef = cond (gon (true) (!(ins)) false) (.bool ((B241 && (n == f)))) undef := ival_at hp 11 247 (by kernel_rfl) rfl
      rcases Bool.eq_false_or_eq_true (gon (gon (true) (!(ins)) false) ((B241 && (n == f))) true) with hc | hc
      rotate_left
      · exact Or.inr ⟨(wanted_gon (k := 11) (d := 247) rfl (by kernel_rfl) hg).trans hc, fun d hd => FU_mk (.val _) rfl (by rw [hc]; rfl)⟩
      refine Or.inl ⟨(wanted_gon (k := 11) (d := 247) rfl (by kernel_rfl) hg).trans hc, ?_⟩
      have HC := Lib.hid hc
      clear hg hc
      have h11 : ac.tmps.getD 11 undef = .bool (i) := (ho 11 (by kernel_rfl)).trans rfl
      unfold Oper.wp
      go_simp
      exact Stepped.at rfl hd (Below.refl _ _) (FU_mk (.val (cond (gon (gon (true) (!(ins)) false) ((B241 && (n == f))) true) (.bool (i)) undef)) rfl (by show (_ : Value) = _; first | rfl | (rw [HC.out]; first | rfl | simp) | (rw [HC.out]; simp [*])))
    · intro ac wx hb hd hs ho hp
      have hg : ac.tmps.getD 247 undef = cond (gon (true) (!(ins)) false) (.bool ((B241 && (n == f)))) undef := ival_at hp 11 247 (by kernel_rfl) rfl
      rcases Bool.eq_false_or_eq_true (gon (gon (true) (!(ins)) false) ((B241 && (n == f))) true) with hc | hc
      rotate_left
      · exact Or.inr ⟨(wanted_gon (k := 11) (d := 247) rfl (by kernel_rfl) hg).trans hc, fun d hd => FU_mk (.val _) rfl (by rw [hc]; rfl)⟩
      refine Or.inl ⟨(wanted_gon (k := 11) (d := 247) rfl (by kernel_rfl) hg).trans hc, ?_⟩
      have HC := Lib.hid hc
      clear hg hc
      have h0 : ac.tmps.getD 0 undef = .int .i64 (a) := (ho 0 (by kernel_rfl)).trans rfl
      unfold Oper.wp
      go_simp
      exact Stepped.at rfl hd (Below.refl _ _) (FU_mk (.val (cond (gon (gon (true) (!(ins)) false) ((B241 && (n == f))) true) (.int .i64 (a)) undef)) rfl (by show (_ : Value) = _; first | rfl | (rw [HC.out]; first | rfl | simp) | (rw [HC.out]; simp [*])))
    · intro ac wx hb hd hs ho hp
      have hg : ac.tmps.getD 247 undef = cond (gon (true) (!(ins)) false) (.bool ((B241 && (n == f)))) undef := ival_at hp 11 247 (by kernel_rfl) rfl
      rcases Bool.eq_false_or_eq_true (gon (gon (true) (!(ins)) false) ((B241 && (n == f))) true) with hc | hc
      rotate_left
      · exact Or.inr ⟨(wanted_gon (k := 11) (d := 247) rfl (by kernel_rfl) hg).trans hc, fun d hd => FU_mk (.val _) rfl (by rw [hc]; rfl)⟩
      refine Or.inl ⟨(wanted_gon (k := 11) (d := 247) rfl (by kernel_rfl) hg).trans hc, ?_⟩
      have HC := Lib.hid hc
      clear hg hc
      have h1 : ac.tmps.getD 1 undef = .int .i64 (b) := (ho 1 (by kernel_rfl)).trans rfl
      unfold Oper.wp
      go_simp
      exact Stepped.at rfl hd (Below.refl _ _) (FU_mk (.val (cond (gon (gon (true) (!(ins)) false) ((B241 && (n == f))) true) (.int .i64 (b)) undef)) rfl (by show (_ : Value) = _; first | rfl | (rw [HC.out]; first | rfl | simp) | (rw [HC.out]; simp [*])))
    · intro ac wx hb hd hs ho hp
      have hg : ac.tmps.getD 247 undef = cond (gon (true) (!(ins)) false) (.bool ((B241 && (n == f)))) undef := ival_at hp 11 247 (by kernel_rfl) rfl
      rcases Bool.eq_false_or_eq_true (gon (gon (true) (!(ins)) false) ((B241 && (n == f))) true) with hc | hc
      rotate_left
      · exact Or.inr ⟨(wanted_gon (k := 11) (d := 247) rfl (by kernel_rfl) hg).trans hc, fun d hd => FU_mk (.val _) rfl (by rw [hc]; rfl)⟩
      refine Or.inl ⟨(wanted_gon (k := 11) (d := 247) rfl (by kernel_rfl) hg).trans hc, ?_⟩
      have HC := Lib.hid hc
      clear hg hc
      have h249 : ac.tmps.getD 249 undef = cond (gon (gon (true) (!(ins)) false) ((B241 && (n == f))) true) (.int .i64 (a)) undef := ival_at hp 13 249 (by kernel_rfl) rfl
      rw [HC.out, cond_true] at h249
      have h250 : ac.tmps.getD 250 undef = cond (gon (gon (true) (!(ins)) false) ((B241 && (n == f))) true) (.int .i64 (b)) undef := ival_at hp 14 250 (by kernel_rfl) rfl
      rw [HC.out, cond_true] at h250
      unfold Oper.wp
      go_simp
      exact Stepped.at rfl hd (Below.refl _ _) (FU_mk (.val (cond (gon (gon (true) (!(ins)) false) ((B241 && (n == f))) true) (.int .i64 (IntKind.i64.wrap ((a) + (b)))) undef)) rfl (by show (_ : Value) = _; first | rfl | (rw [HC.out]; first | rfl | simp) | (rw [HC.out]; simp [*])))
    · intro ac wx hb hd hs ho hp
      have hg : ac.tmps.getD 247 undef = cond (gon (true) (!(ins)) false) (.bool ((B241 && (n == f)))) undef := ival_at hp 11 247 (by kernel_rfl) rfl
      rcases Bool.eq_false_or_eq_true (gon (gon (true) (!(ins)) false) ((B241 && (n == f))) true) with hc | hc
      rotate_left
      · exact Or.inr ⟨(wanted_gon (k := 11) (d := 247) rfl (by kernel_rfl) hg).trans hc, fun d hd => FU_mk (.val _) rfl (by rw [hc]; rfl)⟩
      refine Or.inl ⟨(wanted_gon (k := 11) (d := 247) rfl (by kernel_rfl) hg).trans hc, ?_⟩
      have HC := Lib.hid hc
      clear hg hc
      have h251 : ac.tmps.getD 251 undef = cond (gon (gon (true) (!(ins)) false) ((B241 && (n == f))) true) (.int .i64 (IntKind.i64.wrap ((a) + (b)))) undef := ival_at hp 15 251 (by kernel_rfl) rfl
      rw [HC.out, cond_true] at h251
      unfold Oper.wp
      go_simp
      exact Stepped.at rfl hd (Below.refl _ _) (FU_mk (.val (cond (gon (gon (true) (!(ins)) false) ((B241 && (n == f))) true) (.bool (B252)) undef)) rfl (by show (_ : Value) = _; first | rfl | (rw [HC.out]; rw [← hB252]; first | rfl | simp) | (rw [HC.out]; simp [*])))
    · intro ac wx hb hd hs ho hp
      have hg : ac.tmps.getD 247 undef = cond (gon (true) (!(ins)) false) (.bool ((B241 && (n == f)))) undef := ival_at hp 11 247 (by kernel_rfl) rfl
      rcases Bool.eq_false_or_eq_true (gon (gon (true) (!(ins)) false) ((B241 && (n == f))) true) with hc | hc
      rotate_left
      · exact Or.inr ⟨(wanted_gon (k := 11) (d := 247) rfl (by kernel_rfl) hg).trans hc, fun d hd => FU_mk (.val _) rfl (by rw [hc]; rfl)⟩
      refine Or.inl ⟨(wanted_gon (k := 11) (d := 247) rfl (by kernel_rfl) hg).trans hc, ?_⟩
      have HC := Lib.hid hc
      clear hg hc
      have h252 : ac.tmps.getD 252 undef = cond (gon (gon (true) (!(ins)) false) ((B241 && (n == f))) true) (.bool (B252)) undef := ival_at hp 16 252 (by kernel_rfl) rfl
      rw [HC.out, cond_true] at h252
      unfold Oper.wp
      go_simp
      exact Stepped.at rfl hd (Below.refl _ _) (FU_mk (.val (cond (gon (gon (true) (!(ins)) false) ((B241 && (n == f))) true) (.bool (B252)) undef)) rfl (by show (_ : Value) = _; first | rfl | (rw [HC.out]; first | rfl | simp) | (rw [HC.out]; simp [*])))
    · intro ac wx hb hd hs ho hp
      have hg : ac.tmps.getD 253 undef = cond (gon (gon (true) (!(ins)) false) ((B241 && (n == f))) true) (.bool (B252)) undef := ival_at hp 17 253 (by kernel_rfl) rfl
      rcases Bool.eq_false_or_eq_true (gon (gon (gon (true) (!(ins)) false) ((B241 && (n == f))) true) (B252) true) with hc | hc
      rotate_left
      · exact Or.inr ⟨(wanted_gon (k := 17) (d := 253) rfl (by kernel_rfl) hg).trans hc, fun d hd => FU_mk (.val _) rfl (by rw [hc]; rfl)⟩
      refine Or.inl ⟨(wanted_gon (k := 17) (d := 253) rfl (by kernel_rfl) hg).trans hc, ?_⟩
      have HC := Lib.hid hc
      clear hg hc
      have h0 : ac.tmps.getD 0 undef = .int .i64 (a) := (ho 0 (by kernel_rfl)).trans rfl
      unfold Oper.wp
      go_simp
      exact Stepped.at rfl hd (Below.refl _ _) (FU_mk (.val (cond (gon (gon (gon (true) (!(ins)) false) ((B241 && (n == f))) true) (B252) true) (.int .i64 (a)) undef)) rfl (by show (_ : Value) = _; first | rfl | (rw [HC.out]; first | rfl | simp) | (rw [HC.out]; simp [*])))
    · intro ac wx hb hd hs ho hp
      have hg : ac.tmps.getD 253 undef = cond (gon (gon (true) (!(ins)) false) ((B241 && (n == f))) true) (.bool (B252)) undef := ival_at hp 17 253 (by kernel_rfl) rfl
      rcases Bool.eq_false_or_eq_true (gon (gon (gon (true) (!(ins)) false) ((B241 && (n == f))) true) (B252) true) with hc | hc
      rotate_left
      · exact Or.inr ⟨(wanted_gon (k := 17) (d := 253) rfl (by kernel_rfl) hg).trans hc, fun d hd => FU_mk (.val _) rfl (by rw [hc]; rfl)⟩
      refine Or.inl ⟨(wanted_gon (k := 17) (d := 253) rfl (by kernel_rfl) hg).trans hc, ?_⟩
      have HC := Lib.hid hc
      clear hg hc
      have h1 : ac.tmps.getD 1 undef = .int .i64 (b) := (ho 1 (by kernel_rfl)).trans rfl
      unfold Oper.wp
      go_simp
      exact Stepped.at rfl hd (Below.refl _ _) (FU_mk (.val (cond (gon (gon (gon (true) (!(ins)) false) ((B241 && (n == f))) true) (B252) true) (.int .i64 (b)) undef)) rfl (by show (_ : Value) = _; first | rfl | (rw [HC.out]; first | rfl | simp) | (rw [HC.out]; simp [*])))
    · intro ac wx hb hd hs ho hp
      have hg : ac.tmps.getD 253 undef = cond (gon (gon (true) (!(ins)) false) ((B241 && (n == f))) true) (.bool (B252)) undef := ival_at hp 17 253 (by kernel_rfl) rfl
      rcases Bool.eq_false_or_eq_true (gon (gon (gon (true) (!(ins)) false) ((B241 && (n == f))) true) (B252) true) with hc | hc
      rotate_left
      · exact Or.inr ⟨(wanted_gon (k := 17) (d := 253) rfl (by kernel_rfl) hg).trans hc, fun d hd => FU_mk (.val _) rfl (by rw [hc]; rfl)⟩
      refine Or.inl ⟨(wanted_gon (k := 17) (d := 253) rfl (by kernel_rfl) hg).trans hc, ?_⟩
      have HC := Lib.hid hc
      clear hg hc
      have h254 : ac.tmps.getD 254 undef = cond (gon (gon (gon (true) (!(ins)) false) ((B241 && (n == f))) true) (B252) true) (.int .i64 (a)) undef := ival_at hp 18 254 (by kernel_rfl) rfl
      rw [HC.out, cond_true] at h254
      have h255 : ac.tmps.getD 255 undef = cond (gon (gon (gon (true) (!(ins)) false) ((B241 && (n == f))) true) (B252) true) (.int .i64 (b)) undef := ival_at hp 19 255 (by kernel_rfl) rfl
      rw [HC.out, cond_true] at h255
      unfold Oper.wp
      go_simp
      exact Stepped.at rfl hd (Below.refl _ _) (FU_mk (.val (cond (gon (gon (gon (true) (!(ins)) false) ((B241 && (n == f))) true) (B252) true) (.int .i64 (IntKind.i64.wrap ((a) + (b)))) undef)) rfl (by show (_ : Value) = _; first | rfl | (rw [HC.out]; first | rfl | simp) | (rw [HC.out]; simp [*])))
    · intro ac wx hb hd hs ho hp
      have hg : ac.tmps.getD 253 undef = cond (gon (gon (true) (!(ins)) false) ((B241 && (n == f))) true) (.bool (B252)) undef := ival_at hp 17 253 (by kernel_rfl) rfl
      rcases Bool.eq_false_or_eq_true (gon (gon (gon (true) (!(ins)) false) ((B241 && (n == f))) true) (B252) true) with hc | hc
      rotate_left
      · exact Or.inr ⟨(wanted_gon (k := 17) (d := 253) rfl (by kernel_rfl) hg).trans hc, fun d hd => FU_mk (.val _) rfl (by rw [hc]; rfl)⟩
      refine Or.inl ⟨(wanted_gon (k := 17) (d := 253) rfl (by kernel_rfl) hg).trans hc, ?_⟩
      have HC := Lib.hid hc
      clear hg hc
      have h256 : ac.tmps.getD 256 undef = cond (gon (gon (gon (true) (!(ins)) false) ((B241 && (n == f))) true) (B252) true) (.int .i64 (IntKind.i64.wrap ((a) + (b)))) undef := ival_at hp 20 256 (by kernel_rfl) rfl
      rw [HC.out, cond_true] at h256
      unfold Oper.wp
      go_simp
      exact Stepped.at rfl hd (Below.refl _ _) (FU_mk (.val (cond (gon (gon (gon (true) (!(ins)) false) ((B241 && (n == f))) true) (B252) true) (.bool (B257)) undef)) rfl (by show (_ : Value) = _; first | rfl | (rw [HC.out]; rw [← hB257]; first | rfl | simp) | (rw [HC.out]; simp [*])))
    · intro ac wx hb hd hs ho hp
      have hg : ac.tmps.getD 247 undef = cond (gon (true) (!(ins)) false) (.bool ((B241 && (n == f)))) undef := ival_at hp 11 247 (by kernel_rfl) rfl
      rcases Bool.eq_false_or_eq_true (gon (gon (true) (!(ins)) false) ((B241 && (n == f))) true) with hc | hc
      rotate_left
      · exact Or.inr ⟨(wanted_gon (k := 11) (d := 247) rfl (by kernel_rfl) hg).trans hc, fun d hd => FU_mk (.val _) rfl (by rw [hc]; rfl)⟩
      refine Or.inl ⟨(wanted_gon (k := 11) (d := 247) rfl (by kernel_rfl) hg).trans hc, ?_⟩
      have HC := Lib.hid hc
      clear hg hc
      have h253 : ac.tmps.getD 253 undef = cond (gon (gon (true) (!(ins)) false) ((B241 && (n == f))) true) (.bool (B252)) undef := ival_at hp 17 253 (by kernel_rfl) rfl
      rw [HC.out, cond_true] at h253
      rcases Bool.eq_false_or_eq_true (B252) with e | e
      · rw [e] at h253
        have E := Lib.hid e
        clear e
        have h257 : ac.tmps.getD 257 undef = cond (gon (gon (gon (true) (!(ins)) false) ((B241 && (n == f))) true) (B252) true) (.bool (B257)) undef := ival_at hp 21 257 (by kernel_rfl) rfl
        rw [gon_mk HC.out E.out, cond_true] at h257
        unfold Oper.wp
        go_simp
        exact Stepped.at rfl hd (Below.refl _ _) (FU_mk (.val (cond (gon (gon (true) (!(ins)) false) ((B241 && (n == f))) true) (.bool ((B252 && B257))) undef)) rfl (by show (_ : Value) = _; rw [HC.out, cond_true]; first | (simp only [E.out, Bool.true_and]; done) | simp [E.out]))
      · rw [e] at h253
        have E := Lib.hid e
        clear e
        unfold Oper.wp
        go_simp
        exact Stepped.at rfl hd (Below.refl _ _) (FU_mk (.val (cond (gon (gon (true) (!(ins)) false) ((B241 && (n == f))) true) (.bool ((B252 && B257))) undef)) rfl (by show (_ : Value) = _; rw [HC.out, cond_true]; first | (simp only [E.out, Bool.false_and]; done) | simp [E.out]))
    · intro ac wx hb hd hs ho hp
      have hg : ac.tmps.getD 247 undef = cond (gon (true) (!(ins)) false) (.bool ((B241 && (n == f)))) undef := ival_at hp 11 247 (by kernel_rfl) rfl
      rcases Bool.eq_false_or_eq_true (gon (gon (true) (!(ins)) false) ((B241 && (n == f))) true) with hc | hc
      rotate_left
      · exact Or.inr ⟨(wanted_gon (k := 11) (d := 247) rfl (by kernel_rfl) hg).trans hc, fun d hd => FU_mk (.val _) rfl (by rw [hc]; rfl)⟩
      refine Or.inl ⟨(wanted_gon (k := 11) (d := 247) rfl (by kernel_rfl) hg).trans hc, ?_⟩
      have HC := Lib.hid hc
      clear hg hc
      have h248 : ac.tmps.getD 248 undef = cond (gon (gon (true) (!(ins)) false) ((B241 && (n == f))) true) (.bool (i)) undef := ival_at hp 12 248 (by kernel_rfl) rfl
      rw [HC.out, cond_true] at h248
      have h258 : ac.tmps.getD 258 undef = cond (gon (gon (true) (!(ins)) false) ((B241 && (n == f))) true) (.bool ((B252 && B257))) undef := ival_at hp 22 258 (by kernel_rfl) rfl
      rw [HC.out, cond_true] at h258
      unfold Oper.wp
      go_simp
      exact Stepped.at rfl hd (Below.refl _ _) (FU_mk (.val (cond (gon (gon (true) (!(ins)) false) ((B241 && (n == f))) true) (.bool ((i == (B252 && B257)))) undef)) rfl (by show (_ : Value) = _; first | rfl | (rw [HC.out]; first | rfl | simp) | (rw [HC.out]; simp [*])))
    · intro ac wx hb hd hs ho hp
      have hg : ac.tmps.getD 238 undef = cond (true) (.bool (!(ins))) undef := ival_at hp 2 238 (by kernel_rfl) rfl
      rcases Bool.eq_false_or_eq_true (gon (true) (!(ins)) false) with hc | hc
      rotate_left
      · exact Or.inr ⟨(wanted_gon (k := 2) (d := 238) rfl (by kernel_rfl) hg).trans hc, fun d hd => FU_mk (.val _) rfl (by rw [hc]; rfl)⟩
      refine Or.inl ⟨(wanted_gon (k := 2) (d := 238) rfl (by kernel_rfl) hg).trans hc, ?_⟩
      have HC := Lib.hid hc
      clear hg hc
      have h247 : ac.tmps.getD 247 undef = cond (gon (true) (!(ins)) false) (.bool ((B241 && (n == f)))) undef := ival_at hp 11 247 (by kernel_rfl) rfl
      rw [HC.out, cond_true] at h247
      rcases Bool.eq_false_or_eq_true ((B241 && (n == f))) with e | e
      · rw [e] at h247
        have E := Lib.hid e
        clear e
        have h259 : ac.tmps.getD 259 undef = cond (gon (gon (true) (!(ins)) false) ((B241 && (n == f))) true) (.bool ((i == (B252 && B257)))) undef := ival_at hp 23 259 (by kernel_rfl) rfl
        rw [gon_mk HC.out E.out, cond_true] at h259
        unfold Oper.wp
        go_simp
        exact Stepped.at rfl hd (Below.refl _ _) (FU_mk (.val (cond (gon (true) (!(ins)) false) (.bool (((B241 && (n == f)) && (i == (B252 && B257))))) undef)) rfl (by show (_ : Value) = _; rw [HC.out, cond_true]; first | (simp only [E.out, Bool.true_and]; done) | simp [E.out]))
      · rw [e] at h247
        have E := Lib.hid e
        clear e
        unfold Oper.wp
        go_simp
        exact Stepped.at rfl hd (Below.refl _ _) (FU_mk (.val (cond (gon (true) (!(ins)) false) (.bool (((B241 && (n == f)) && (i == (B252 && B257))))) undef)) rfl (by show (_ : Value) = _; rw [HC.out, cond_true]; first | (simp only [E.out, Bool.false_and]; done) | simp [E.out]))
    · intro ac wx hb hd hs ho hp
      have hg : ac.tmps.getD 238 undef = cond (true) (.bool (!(ins))) undef := ival_at hp 2 238 (by kernel_rfl) rfl
      rcases Bool.eq_false_or_eq_true (gon (true) (!(ins)) false) with hc | hc
      rotate_left
      · exact Or.inr ⟨(wanted_gon (k := 2) (d := 238) rfl (by kernel_rfl) hg).trans hc, fun d hd => FU_mk (.val _) rfl (by rw [hc]; rfl)⟩
      refine Or.inl ⟨(wanted_gon (k := 2) (d := 238) rfl (by kernel_rfl) hg).trans hc, ?_⟩
      have HC := Lib.hid hc
      clear hg hc
      have h260 : ac.tmps.getD 260 undef = cond (gon (true) (!(ins)) false) (.bool (((B241 && (n == f)) && (i == (B252 && B257))))) undef := ival_at hp 24 260 (by kernel_rfl) rfl
      rw [HC.out, cond_true] at h260
      unfold Oper.wp
      go_simp
      exact Stepped.at rfl hd (Below.refl _ _) (FU_mk (.val (cond (gon (true) (!(ins)) false) (.bool (((B241 && (n == f)) && (i == (B252 && B257))))) undef)) rfl (by show (_ : Value) = _; first | rfl | (rw [HC.out]; first | rfl | simp) | (rw [HC.out]; simp [*])))
    · intro ac wx hb hd hs ho hp
      have hg : ac.tmps.getD 261 undef = cond (gon (true) (!(ins)) false) (.bool (((B241 && (n == f)) && (i == (B252 && B257))))) undef := ival_at hp 25 261 (by kernel_rfl) rfl
      rcases Bool.eq_false_or_eq_true (gon (gon (true) (!(ins)) false) (((B241 && (n == f)) && (i == (B252 && B257)))) true) with hc | hc
      rotate_left
      · exact Or.inr ⟨(wanted_gon (k := 25) (d := 261) rfl (by kernel_rfl) hg).trans hc, fun d hd => FU_mk (.val _) rfl (by rw [hc]; rfl)⟩
      refine Or.inl ⟨(wanted_gon (k := 25) (d := 261) rfl (by kernel_rfl) hg).trans hc, ?_⟩
      have HC := Lib.hid hc
      clear hg hc
      have h15 : ac.tmps.getD 15 undef = .bool (k) := (ho 15 (by kernel_rfl)).trans rfl
      unfold Oper.wp
      go_simp
      exact Stepped.at rfl hd (Below.refl _ _) (FU_mk (.val (cond (gon (gon (true) (!(ins)) false) (((B241 && (n == f)) && (i == (B252 && B257)))) true) (.bool (k)) undef)) rfl (by show (_ : Value) = _; first | rfl | (rw [HC.out]; first | rfl | simp) | (rw [HC.out]; simp [*])))
    · intro ac wx hb hd hs ho hp
      have hg : ac.tmps.getD 261 undef = cond (gon (true) (!(ins)) false) (.bool (((B241 && (n == f)) && (i == (B252 && B257))))) undef := ival_at hp 25 261 (by kernel_rfl) rfl
      rcases Bool.eq_false_or_eq_true (gon (gon (true) (!(ins)) false) (((B241 && (n == f)) && (i == (B252 && B257)))) true) with hc | hc
      rotate_left
      · exact Or.inr ⟨(wanted_gon (k := 25) (d := 261) rfl (by kernel_rfl) hg).trans hc, fun d hd => FU_mk (.val _) rfl (by rw [hc]; rfl)⟩
      refine Or.inl ⟨(wanted_gon (k := 25) (d := 261) rfl (by kernel_rfl) hg).trans hc, ?_⟩
      have HC := Lib.hid hc
      clear hg hc
      have h0 : ac.tmps.getD 0 undef = .int .i64 (a) := (ho 0 (by kernel_rfl)).trans rfl
      unfold Oper.wp
      go_simp
      exact Stepped.at rfl hd (Below.refl _ _) (FU_mk (.val (cond (gon (gon (true) (!(ins)) false) (((B241 && (n == f)) && (i == (B252 && B257)))) true) (.int .i64 (a)) undef)) rfl (by show (_ : Value) = _; first | rfl | (rw [HC.out]; first | rfl | simp) | (rw [HC.out]; simp [*])))
    · intro ac wx hb hd hs ho hp
      have hg : ac.tmps.getD 261 undef = cond (gon (true) (!(ins)) false) (.bool (((B241 && (n == f)) && (i == (B252 && B257))))) undef := ival_at hp 25 261 (by kernel_rfl) rfl
      rcases Bool.eq_false_or_eq_true (gon (gon (true) (!(ins)) false) (((B241 && (n == f)) && (i == (B252 && B257)))) true) with hc | hc
      rotate_left
      · exact Or.inr ⟨(wanted_gon (k := 25) (d := 261) rfl (by kernel_rfl) hg).trans hc, fun d hd => FU_mk (.val _) rfl (by rw [hc]; rfl)⟩
      refine Or.inl ⟨(wanted_gon (k := 25) (d := 261) rfl (by kernel_rfl) hg).trans hc, ?_⟩
      have HC := Lib.hid hc
      clear hg hc
      have h1 : ac.tmps.getD 1 undef = .int .i64 (b) := (ho 1 (by kernel_rfl)).trans rfl
      unfold Oper.wp
      go_simp
      exact Stepped.at rfl hd (Below.refl _ _) (FU_mk (.val (cond (gon (gon (true) (!(ins)) false) (((B241 && (n == f)) && (i == (B252 && B257)))) true) (.int .i64 (b)) undef)) rfl (by show (_ : Value) = _; first | rfl | (rw [HC.out]; first | rfl | simp) | (rw [HC.out]; simp [*])))
    · intro ac wx hb hd hs ho hp
      have hg : ac.tmps.getD 261 undef = cond (gon (true) (!(ins)) false) (.bool (((B241 && (n == f)) && (i == (B252 && B257))))) undef := ival_at hp 25 261 (by kernel_rfl) rfl
      rcases Bool.eq_false_or_eq_true (gon (gon (true) (!(ins)) false) (((B241 && (n == f)) && (i == (B252 && B257)))) true) with hc | hc
      rotate_left
      · exact Or.inr ⟨(wanted_gon (k := 25) (d := 261) rfl (by kernel_rfl) hg).trans hc, fun d hd => FU_mk (.val _) rfl (by rw [hc]; rfl)⟩
      refine Or.inl ⟨(wanted_gon (k := 25) (d := 261) rfl (by kernel_rfl) hg).trans hc, ?_⟩
      have HC := Lib.hid hc
      clear hg hc
      have h263 : ac.tmps.getD 263 undef = cond (gon (gon (true) (!(ins)) false) (((B241 && (n == f)) && (i == (B252 && B257)))) true) (.int .i64 (a)) undef := ival_at hp 27 263 (by kernel_rfl) rfl
      rw [HC.out, cond_true] at h263
      have h264 : ac.tmps.getD 264 undef = cond (gon (gon (true) (!(ins)) false) (((B241 && (n == f)) && (i == (B252 && B257)))) true) (.int .i64 (b)) undef := ival_at hp 28 264 (by kernel_rfl) rfl
      rw [HC.out, cond_true] at h264
      unfold Oper.wp
      go_simp
      exact Stepped.at rfl hd (Below.refl _ _) (FU_mk (.val (cond (gon (gon (true) (!(ins)) false) (((B241 && (n == f)) && (i == (B252 && B257)))) true) (.int .i64 (IntKind.i64.wrap ((a) * (b)))) undef)) rfl (by show (_ : Value) = _; first | rfl | (rw [HC.out]; first | rfl | simp) | (rw [HC.out]; simp [*])))
    · intro ac wx hb hd hs ho hp
      have hg : ac.tmps.getD 261 undef = cond (gon (true) (!(ins)) false) (.bool (((B241 && (n == f)) && (i == (B252 && B257))))) undef := ival_at hp 25 261 (by kernel_rfl) rfl
      rcases Bool.eq_false_or_eq_true (gon (gon (true) (!(ins)) false) (((B241 && (n == f)) && (i == (B252 && B257)))) true) with hc | hc
      rotate_left
      · exact Or.inr ⟨(wanted_gon (k := 25) (d := 261) rfl (by kernel_rfl) hg).trans hc, fun d hd => FU_mk (.val _) rfl (by rw [hc]; rfl)⟩
      refine Or.inl ⟨(wanted_gon (k := 25) (d := 261) rfl (by kernel_rfl) hg).trans hc, ?_⟩
      have HC := Lib.hid hc
      clear hg hc
      have h265 : ac.tmps.getD 265 undef = cond (gon (gon (true) (!(ins)) false) (((B241 && (n == f)) && (i == (B252 && B257)))) true) (.int .i64 (IntKind.i64.wrap ((a) * (b)))) undef := ival_at hp 29 265 (by kernel_rfl) rfl
      rw [HC.out, cond_true] at h265
      unfold Oper.wp
      go_simp
      exact Stepped.at rfl hd (Below.refl _ _) (FU_mk (.val (cond (gon (gon (true) (!(ins)) false) (((B241 && (n == f)) && (i == (B252 && B257)))) true) (.bool (B266)) undef)) rfl (by show (_ : Value) = _; first | rfl | (rw [HC.out]; rw [← hB266]; first | rfl | simp) | (rw [HC.out]; simp [*])))
    · intro ac wx hb hd hs ho hp
      have hg : ac.tmps.getD 261 undef = cond (gon (true) (!(ins)) false) (.bool (((B241 && (n == f)) && (i == (B252 && B257))))) undef := ival_at hp 25 261 (by kernel_rfl) rfl
      rcases Bool.eq_false_or_eq_true (gon (gon (true) (!(ins)) false) (((B241 && (n == f)) && (i == (B252 && B257)))) true) with hc | hc
      rotate_left
      · exact Or.inr ⟨(wanted_gon (k := 25) (d := 261) rfl (by kernel_rfl) hg).trans hc, fun d hd => FU_mk (.val _) rfl (by rw [hc]; rfl)⟩
      refine Or.inl ⟨(wanted_gon (k := 25) (d := 261) rfl (by kernel_rfl) hg).trans hc, ?_⟩
      have HC := Lib.hid hc
      clear hg hc
      have h266 : ac.tmps.getD 266 undef = cond (gon (gon (true) (!(ins)) false) (((B241 && (n == f)) && (i == (B252 && B257)))) true) (.bool (B266)) undef := ival_at hp 30 266 (by kernel_rfl) rfl
      rw [HC.out, cond_true] at h266
      unfold Oper.wp
      go_simp
      exact Stepped.at rfl hd (Below.refl _ _) (FU_mk (.val (cond (gon (gon (true) (!(ins)) false) (((B241 && (n == f)) && (i == (B252 && B257)))) true) (.bool (B266)) undef)) rfl (by show (_ : Value) = _; first | rfl | (rw [HC.out]; first | rfl | simp) | (rw [HC.out]; simp [*])))
    · intro ac wx hb hd hs ho hp
      have hg : ac.tmps.getD 267 undef = cond (gon (gon (true) (!(ins)) false) (((B241 && (n == f)) && (i == (B252 && B257)))) true) (.bool (B266)) undef := ival_at hp 31 267 (by kernel_rfl) rfl
      rcases Bool.eq_false_or_eq_true (gon (gon (gon (true) (!(ins)) false) (((B241 && (n == f)) && (i == (B252 && B257)))) true) (B266) true) with hc | hc
      rotate_left
      · exact Or.inr ⟨(wanted_gon (k := 31) (d := 267) rfl (by kernel_rfl) hg).trans hc, fun d hd => FU_mk (.val _) rfl (by rw [hc]; rfl)⟩
      refine Or.inl ⟨(wanted_gon (k := 31) (d := 267) rfl (by kernel_rfl) hg).trans hc, ?_⟩
      have HC := Lib.hid hc
      clear hg hc
      have h0 : ac.tmps.getD 0 undef = .int .i64 (a) := (ho 0 (by kernel_rfl)).trans rfl
      unfold Oper.wp
      go_simp
      exact Stepped.at rfl hd (Below.refl _ _) (FU_mk (.val (cond (gon (gon (gon (true) (!(ins)) false) (((B241 && (n == f)) && (i == (B252 && B257)))) true) (B266) true) (.int .i64 (a)) undef)) rfl (by show (_ : Value) = _; first | rfl | (rw [HC.out]; first | rfl | simp) | (rw [HC.out]; simp [*])))
    · intro ac wx hb hd hs ho hp
      have hg : ac.tmps.getD 267 undef = cond (gon (gon (true) (!(ins)) false) (((B241 && (n == f)) && (i == (B252 && B257)))) true) (.bool (B266)) undef := ival_at hp 31 267 (by kernel_rfl) rfl
      rcases Bool.eq_false_or_eq_true (gon (gon (gon (true) (!(ins)) false) (((B241 && (n == f)) && (i == (B252 && B257)))) true) (B266) true) with hc | hc
      rotate_left
      · exact Or.inr ⟨(wanted_gon (k := 31) (d := 267) rfl (by kernel_rfl) hg).trans hc, fun d hd => FU_mk (.val _) rfl (by rw [hc]; rfl)⟩
      refine Or.inl ⟨(wanted_gon (k := 31) (d := 267) rfl (by kernel_rfl) hg).trans hc, ?_⟩
      have HC := Lib.hid hc
      clear hg hc
      have h1 : ac.tmps.getD 1 undef = .int .i64 (b) := (ho 1 (by kernel_rfl)).trans rfl
      unfold Oper.wp
      go_simp
      exact Stepped.at rfl hd (Below.refl _ _) (FU_mk (.val (cond (gon (gon (gon (true) (!(ins)) false) (((B241 && (n == f)) && (i == (B252 && B257)))) true) (B266) true) (.int .i64 (b)) undef)) rfl (by show (_ : Value) = _; first | rfl | (rw [HC.out]; first | rfl | simp) | (rw [HC.out]; simp [*])))
    · intro ac wx hb hd hs ho hp
      have hg : ac.tmps.getD 267 undef = cond (gon (gon (true) (!(ins)) false) (((B241 && (n == f)) && (i == (B252 && B257)))) true) (.bool (B266)) undef := ival_at hp 31 267 (by kernel_rfl) rfl
      rcases Bool.eq_false_or_eq_true (gon (gon (gon (true) (!(ins)) false) (((B241 && (n == f)) && (i == (B252 && B257)))) true) (B266) true) with hc | hc
      rotate_left
      · exact Or.inr ⟨(wanted_gon (k := 31) (d := 267) rfl (by kernel_rfl) hg).trans hc, fun d hd => FU_mk (.val _) rfl (by rw [hc]; rfl)⟩
      refine Or.inl ⟨(wanted_gon (k := 31) (d := 267) rfl (by kernel_rfl) hg).trans hc, ?_⟩
      have HC := Lib.hid hc
      clear hg hc
      have h268 : ac.tmps.getD 268 undef = cond (gon (gon (gon (true) (!(ins)) false) (((B241 && (n == f)) && (i == (B252 && B257)))) true) (B266) true) (.int .i64 (a)) undef := ival_at hp 32 268 (by kernel_rfl) rfl
      rw [HC.out, cond_true] at h268
      have h269 : ac.tmps.getD 269 undef = cond (gon (gon (gon (true) (!(ins)) false) (((B241 && (n == f)) && (i == (B252 && B257)))) true) (B266) true) (.int .i64 (b)) undef := ival_at hp 33 269 (by kernel_rfl) rfl
      rw [HC.out, cond_true] at h269
      unfold Oper.wp
      go_simp
      exact Stepped.at rfl hd (Below.refl _ _) (FU_mk (.val (cond (gon (gon (gon (true) (!(ins)) false) (((B241 && (n == f)) && (i == (B252 && B257)))) true) (B266) true) (.int .i64 (IntKind.i64.wrap ((a) * (b)))) undef)) rfl (by show (_ : Value) = _; first | rfl | (rw [HC.out]; first | rfl | simp) | (rw [HC.out]; simp [*])))
    · intro ac wx hb hd hs ho hp
      have hg : ac.tmps.getD 267 undef = cond (gon (gon (true) (!(ins)) false) (((B241 && (n == f)) && (i == (B252 && B257)))) true) (.bool (B266)) undef := ival_at hp 31 267 (by kernel_rfl) rfl
      rcases Bool.eq_false_or_eq_true (gon (gon (gon (true) (!(ins)) false) (((B241 && (n == f)) && (i == (B252 && B257)))) true) (B266) true) with hc | hc
      rotate_left
      · exact Or.inr ⟨(wanted_gon (k := 31) (d := 267) rfl (by kernel_rfl) hg).trans hc, fun d hd => FU_mk (.val _) rfl (by rw [hc]; rfl)⟩
      refine Or.inl ⟨(wanted_gon (k := 31) (d := 267) rfl (by kernel_rfl) hg).trans hc, ?_⟩
      have HC := Lib.hid hc
      clear hg hc
      have h270 : ac.tmps.getD 270 undef = cond (gon (gon (gon (true) (!(ins)) false) (((B241 && (n == f)) && (i == (B252 && B257)))) true) (B266) true) (.int .i64 (IntKind.i64.wrap ((a) * (b)))) undef := ival_at hp 34 270 (by kernel_rfl) rfl
      rw [HC.out, cond_true] at h270
      unfold Oper.wp
      go_simp
      exact Stepped.at rfl hd (Below.refl _ _) (FU_mk (.val (cond (gon (gon (gon (true) (!(ins)) false) (((B241 && (n == f)) && (i == (B252 && B257)))) true) (B266) true) (.bool (B271)) undef)) rfl (by show (_ : Value) = _; first | rfl | (rw [HC.out]; rw [← hB271]; first | rfl | simp) | (rw [HC.out]; simp [*])))
    · intro ac wx hb hd hs ho hp
      have hg : ac.tmps.getD 261 undef = cond (gon (true) (!(ins)) false) (.bool (((B241 && (n == f)) && (i == (B252 && B257))))) undef := ival_at hp 25 261 (by kernel_rfl) rfl
      rcases Bool.eq_false_or_eq_true (gon (gon (true) (!(ins)) false) (((B241 && (n == f)) && (i == (B252 && B257)))) true) with hc | hc
      rotate_left
      · exact Or.inr ⟨(wanted_gon (k := 25) (d := 261) rfl (by kernel_rfl) hg).trans hc, fun d hd => FU_mk (.val _) rfl (by rw [hc]; rfl)⟩
      refine Or.inl ⟨(wanted_gon (k := 25) (d := 261) rfl (by kernel_rfl) hg).trans hc, ?_⟩
      have HC := Lib.hid hc
      clear hg hc
      have h267 : ac.tmps.getD 267 undef = cond (gon (gon (true) (!(ins)) false) (((B241 && (n == f)) && (i == (B252 && B257)))) true) (.bool (B266)) undef := ival_at hp 31 267 (by kernel_rfl) rfl
      rw [HC.out, cond_true] at h267
      rcases Bool.eq_false_or_eq_true (B266) with e | e
      · rw [e] at h267
        have E := Lib.hid e
        clear e
        have h271 : ac.tmps.getD 271 undef = cond (gon (gon (gon (true) (!(ins)) false) (((B241 && (n == f)) && (i == (B252 && B257)))) true) (B266) true) (.bool (B271)) undef := ival_at hp 35 271 (by kernel_rfl) rfl
        rw [gon_mk HC.out E.out, cond_true] at h271
        unfold Oper.wp
        go_simp
        exact Stepped.at rfl hd (Below.refl _ _) (FU_mk (.val (cond (gon (gon (true) (!(ins)) false) (((B241 && (n == f)) && (i == (B252 && B257)))) true) (.bool ((B266 && B271))) undef)) rfl (by show (_ : Value) = _; rw [HC.out, cond_true]; first | (simp only [E.out, Bool.true_and]; done) | simp [E.out]))
      · rw [e] at h267
        have E := Lib.hid e
        clear e
        unfold Oper.wp
        go_simp
        exact Stepped.at rfl hd (Below.refl _ _) (FU_mk (.val (cond (gon (gon (true) (!(ins)) false) (((B241 && (n == f)) && (i == (B252 && B257)))) true) (.bool ((B266 && B271))) undef)) rfl (by show (_ : Value) = _; rw [HC.out, cond_true]; first | (simp only [E.out, Bool.false_and]; done) | simp [E.out]))
    · intro ac wx hb hd hs ho hp
      have hg : ac.tmps.getD 261 undef = cond (gon (true) (!(ins)) false) (.bool (((B241 && (n == f)) && (i == (B252 && B257))))) undef := ival_at hp 25 261 (by kernel_rfl) rfl
      rcases Bool.eq_false_or_eq_true (gon (gon (true) (!(ins)) false) (((B241 && (n == f)) && (i == (B252 && B257)))) true) with hc | hc
      rotate_left
      · exact Or.inr ⟨(wanted_gon (k := 25) (d := 261) rfl (by kernel_rfl) hg).trans hc, fun d hd => FU_mk (.val _) rfl (by rw [hc]; rfl)⟩
      refine Or.inl ⟨(wanted_gon (k := 25) (d := 261) rfl (by kernel_rfl) hg).trans hc, ?_⟩
      have HC := Lib.hid hc
      clear hg hc
      have h262 : ac.tmps.getD 262 undef = cond (gon (gon (true) (!(ins)) false) (((B241 && (n == f)) && (i == (B252 && B257)))) true) (.bool (k)) undef := ival_at hp 26 262 (by kernel_rfl) rfl
      rw [HC.out, cond_true] at h262
      have h272 : ac.tmps.getD 272 undef = cond (gon (gon (true) (!(ins)) false) (((B241 && (n == f)) && (i == (B252 && B257)))) true) (.bool ((B266 && B271))) undef := ival_at hp 36 272 (by kernel_rfl) rfl
      rw [HC.out, cond_true] at h272
      unfold Oper.wp
      go_simp
      exact Stepped.at rfl hd (Below.refl _ _) (FU_mk (.val (cond (gon (gon (true) (!(ins)) false) (((B241 && (n == f)) && (i == (B252 && B257)))) true) (.bool ((k == (B266 && B271)))) undef)) rfl (by show (_ : Value) = _; first | rfl | (rw [HC.out]; first | rfl | simp) | (rw [HC.out]; simp [*])))
    · intro ac wx hb hd hs ho hp
      have hg : ac.tmps.getD 238 undef = cond (true) (.bool (!(ins))) undef := ival_at hp 2 238 (by kernel_rfl) rfl
      rcases Bool.eq_false_or_eq_true (gon (true) (!(ins)) false) with hc | hc
      rotate_left
      · exact Or.inr ⟨(wanted_gon (k := 2) (d := 238) rfl (by kernel_rfl) hg).trans hc, fun d hd => FU_mk (.val _) rfl (by rw [hc]; rfl)⟩
      refine Or.inl ⟨(wanted_gon (k := 2) (d := 238) rfl (by kernel_rfl) hg).trans hc, ?_⟩
      have HC := Lib.hid hc
      clear hg hc
      have h261 : ac.tmps.getD 261 undef = cond (gon (true) (!(ins)) false) (.bool (((B241 && (n == f)) && (i == (B252 && B257))))) undef := ival_at hp 25 261 (by kernel_rfl) rfl
      rw [HC.out, cond_true] at h261
      rcases Bool.eq_false_or_eq_true (((B241 && (n == f)) && (i == (B252 && B257)))) with e | e
      · rw [e] at h261
        have E := Lib.hid e
        clear e
        have h273 : ac.tmps.getD 273 undef = cond (gon (gon (true) (!(ins)) false) (((B241 && (n == f)) && (i == (B252 && B257)))) true) (.bool ((k == (B266 && B271)))) undef := ival_at hp 37 273 (by kernel_rfl) rfl
        rw [gon_mk HC.out E.out, cond_true] at h273
        unfold Oper.wp
        go_simp
        exact Stepped.at rfl hd (Below.refl _ _) (FU_mk (.val (cond (gon (true) (!(ins)) false) (.bool ((((B241 && (n == f)) && (i == (B252 && B257))) && (k == (B266 && B271))))) undef)) rfl (by show (_ : Value) = _; rw [HC.out, cond_true]; first | (simp only [E.out, Bool.true_and]; done) | simp [E.out]))
      · rw [e] at h261
        have E := Lib.hid e
        clear e
        unfold Oper.wp
        go_simp
        exact Stepped.at rfl hd (Below.refl _ _) (FU_mk (.val (cond (gon (true) (!(ins)) false) (.bool ((((B241 && (n == f)) && (i == (B252 && B257))) && (k == (B266 && B271))))) undef)) rfl (by show (_ : Value) = _; rw [HC.out, cond_true]; first | (simp only [E.out, Bool.false_and]; done) | simp [E.out]))
    · intro ac wx hb hd hs ho hp
      refine Or.inl ⟨rfl, ?_⟩
      have h238 : ac.tmps.getD 238 undef = .bool (!(ins)) := ival_at hp 2 238 (by kernel_rfl) rfl
      rcases Bool.eq_false_or_eq_true (!(ins)) with e | e
      · rw [e] at h238
        have E := Lib.hid e
        clear e
        unfold Oper.wp
        go_simp
        exact Stepped.at rfl hd (Below.refl _ _) (FU_mk (.val (.bool ((!(ins) || (((B241 && (n == f)) && (i == (B252 && B257))) && (k == (B266 && B271))))))) rfl (by show (_ : Value) = _; first | (simp only [E.out, Bool.true_or]; done) | simp [E.out]))
      · rw [e] at h238
        have E := Lib.hid e
        clear e
        have h274 : ac.tmps.getD 274 undef = cond (gon (true) (!(ins)) false) (.bool ((((B241 && (n == f)) && (i == (B252 && B257))) && (k == (B266 && B271))))) undef := ival_at hp 38 274 (by kernel_rfl) rfl
        rw [gon_mk rfl E.out, cond_true] at h274
        unfold Oper.wp
        go_simp
        exact Stepped.at rfl hd (Below.refl _ _) (FU_mk (.val (.bool ((!(ins) || (((B241 && (n == f)) && (i == (B252 && B257))) && (k == (B266 && B271))))))) rfl (by show (_ : Value) = _; first | (simp only [E.out, Bool.false_or]; done) | simp [E.out]))
    · intro ac wx hb hd hs ho hp
      refine Or.inl ⟨rfl, ?_⟩
      have h275 : ac.tmps.getD 275 undef = .bool ((!(ins) || (((B241 && (n == f)) && (i == (B252 && B257))) && (k == (B266 && B271))))) := ival_at hp 39 275 (by kernel_rfl) rfl
      unfold Oper.wp
      go_simp
      exact Stepped.at rfl hd (Below.refl _ _) (FU_mk (.val (.bool ((!(ins) || (((B241 && (n == f)) && (i == (B252 && B257))) && (k == (B266 && B271))))))) rfl (by show (_ : Value) = _; first | rfl | (first | rfl | simp) | (simp [*])))
  intro ac wx hJ
  have f4 : ac.tmps.getD 4 undef = .bool ((!(ins) || (((B241 && (n == f)) && (i == (B252 && B257))) && (k == (B266 && B271))))) := FU_at (.val (.bool ((!(ins) || (((B241 && (n == f)) && (i == (B252 && B257))) && (k == (B266 && B271))))))) rfl (hJ.at_end 40 4 (by kernel_rfl))
  have e4 : ((!(ins) || (((B241 && (n == f)) && (i == (B252 && B257))) && (k == (B266 && B271))))) = true := by
    subst hB241 hB252 hB257 hB266 hB271
    exact M4.out
  rw [e4] at f4
  clear e4 M4
  have BX := Lib.hid (BW.out.trans (hJ.below.mono BW.out.size))
  clear BW
  have BW := BX
  clear BX
  obtain ⟨u236, f236⟩ : ∃ u, ac.tmps.getD 236 undef = u := ⟨_, rfl⟩
  obtain ⟨u237, f237⟩ : ∃ u, ac.tmps.getD 237 undef = u := ⟨_, rfl⟩
  obtain ⟨u238, f238⟩ : ∃ u, ac.tmps.getD 238 undef = u := ⟨_, rfl⟩
  obtain ⟨u239, f239⟩ : ∃ u, ac.tmps.getD 239 undef = u := ⟨_, rfl⟩
  obtain ⟨u240, f240⟩ : ∃ u, ac.tmps.getD 240 undef = u := ⟨_, rfl⟩
  obtain ⟨u241, f241⟩ : ∃ u, ac.tmps.getD 241 undef = u := ⟨_, rfl⟩
  obtain ⟨u242, f242⟩ : ∃ u, ac.tmps.getD 242 undef = u := ⟨_, rfl⟩
  obtain ⟨u243, f243⟩ : ∃ u, ac.tmps.getD 243 undef = u := ⟨_, rfl⟩
  obtain ⟨u244, f244⟩ : ∃ u, ac.tmps.getD 244 undef = u := ⟨_, rfl⟩
  obtain ⟨u245, f245⟩ : ∃ u, ac.tmps.getD 245 undef = u := ⟨_, rfl⟩
  obtain ⟨u246, f246⟩ : ∃ u, ac.tmps.getD 246 undef = u := ⟨_, rfl⟩
  obtain ⟨u247, f247⟩ : ∃ u, ac.tmps.getD 247 undef = u := ⟨_, rfl⟩
  obtain ⟨u248, f248⟩ : ∃ u, ac.tmps.getD 248 undef = u := ⟨_, rfl⟩
  obtain ⟨u249, f249⟩ : ∃ u, ac.tmps.getD 249 undef = u := ⟨_, rfl⟩
  obtain ⟨u250, f250⟩ : ∃ u, ac.tmps.getD 250 undef = u := ⟨_, rfl⟩
  obtain ⟨u251, f251⟩ : ∃ u, ac.tmps.getD 251 undef = u := ⟨_, rfl⟩
  obtain ⟨u252, f252⟩ : ∃ u, ac.tmps.getD 252 undef = u := ⟨_, rfl⟩
  obtain ⟨u253, f253⟩ : ∃ u, ac.tmps.getD 253 undef = u := ⟨_, rfl⟩
  obtain ⟨u254, f254⟩ : ∃ u, ac.tmps.getD 254 undef = u := ⟨_, rfl⟩
  obtain ⟨u255, f255⟩ : ∃ u, ac.tmps.getD 255 undef = u := ⟨_, rfl⟩
  obtain ⟨u256, f256⟩ : ∃ u, ac.tmps.getD 256 undef = u := ⟨_, rfl⟩
  obtain ⟨u257, f257⟩ : ∃ u, ac.tmps.getD 257 undef = u := ⟨_, rfl⟩
  obtain ⟨u258, f258⟩ : ∃ u, ac.tmps.getD 258 undef = u := ⟨_, rfl⟩
  obtain ⟨u259, f259⟩ : ∃ u, ac.tmps.getD 259 undef = u := ⟨_, rfl⟩
  obtain ⟨u260, f260⟩ : ∃ u, ac.tmps.getD 260 undef = u := ⟨_, rfl⟩
  obtain ⟨u261, f261⟩ : ∃ u, ac.tmps.getD 261 undef = u := ⟨_, rfl⟩
  obtain ⟨u262, f262⟩ : ∃ u, ac.tmps.getD 262 undef = u := ⟨_, rfl⟩
  obtain ⟨u263, f263⟩ : ∃ u, ac.tmps.getD 263 undef = u := ⟨_, rfl⟩
  obtain ⟨u264, f264⟩ : ∃ u, ac.tmps.getD 264 undef = u := ⟨_, rfl⟩
  obtain ⟨u265, f265⟩ : ∃ u, ac.tmps.getD 265 undef = u := ⟨_, rfl⟩
  obtain ⟨u266, f266⟩ : ∃ u, ac.tmps.getD 266 undef = u := ⟨_, rfl⟩
  obtain ⟨u267, f267⟩ : ∃ u, ac.tmps.getD 267 undef = u := ⟨_, rfl⟩
  obtain ⟨u268, f268⟩ : ∃ u, ac.tmps.getD 268 undef = u := ⟨_, rfl⟩
  obtain ⟨u269, f269⟩ : ∃ u, ac.tmps.getD 269 undef = u := ⟨_, rfl⟩
  obtain ⟨u270, f270⟩ : ∃ u, ac.tmps.getD 270 undef = u := ⟨_, rfl⟩
  obtain ⟨u271, f271⟩ : ∃ u, ac.tmps.getD 271 undef = u := ⟨_, rfl⟩
  obtain ⟨u272, f272⟩ : ∃ u, ac.tmps.getD 272 undef = u := ⟨_, rfl⟩
  obtain ⟨u273, f273⟩ : ∃ u, ac.tmps.getD 273 undef = u := ⟨_, rfl⟩
  obtain ⟨u274, f274⟩ : ∃ u, ac.tmps.getD 274 undef = u := ⟨_, rfl⟩
  obtain ⟨u275, f275⟩ : ∃ u, ac.tmps.getD 275 undef = u := ⟨_, rfl⟩
  obtain ⟨T, D⟩ := ac
  obtain rfl : D = [] := hJ.defers
  have hE := slots_merge [false, false, false, false, true, false, false, false, false, false, false, false, false, false, false, false, false, false, false, false, false, false, false, false, false, false, false, false, false, false, false, false, false, false, false, false, false, false, false, false, false, false, false, false, false, false, false, false, false, false, false, false, false, false, false, false, false, false, false, false, false, false, false, false, false, false, false, false, false, false, false, false, false, false, false, false, false, false, false, false, false, false, false, false, false, false, false, false, false, false, false, false, false, false, false, false, false, false, false, false, false, false, false, false, false, false, false, false, false, false, false, false, false, false, false, false, false, false, false, false, false, false, false, false, false, false, false, false, false, false, false, false, false, false, false, false, false, false, false, false, false, false, false, false, false, false, false, false, false, false, false, false, false, false, false, false, false, false, false, false, false, false, false, false, false, false, false, false, false, false, false, false, false, false, false, false, false, false, false, false, false, false, false, false, false, false, false, false, false, false, false, false, false, false, false, false, false, false, false, false, false, false, false, false, false, false, false, false, false, false, false, false, false, false, false, false, false, false, false, false, false, false, false, false, false, false, false, false, false, false, false, false, false, false, false, false, true, true, true, true, true, true, true, true, true, true, true, true, true, true, true, true, true, true, true, true, true, true, true, true, true, true, true, true, true, true, true, true, true, true, true, true, true, true, true, true] 276 hJ.tmps rfl (by kernel_rfl) hJ.outer
  simp only [mergeFrom, Nat.zero_add, Nat.reduceAdd, f236, f237, f238, f239, f240, f241, f242, f243, f244, f245, f246, f247, f248, f249, f250, f251, f252, f253, f254, f255, f256, f257, f258, f259, f260, f261, f262, f263, f264, f265, f266, f267, f268, f269, f270, f271, f272, f273, f274, f275, f4] at hE
  clear hJ f236 f237 f238 f239 f240 f241 f242 f243 f244 f245 f246 f247 f248 f249 f250 f251 f252 f253 f254 f255 f256 f257 f258 f259 f260 f261 f262 f263 f264 f265 f266 f267 f268 f269 f270 f271 f272 f273 f274 f275 f4 hB241 hB252 hB257 hB266 hB271
  subst hE
  refine HK.out _ _ ?_
  clear HK
  go_wp2_with fail
  go_ret
  exact ⟨rfl, BW.out⟩
end Go.Proofs.YteaiocdopjekhaaGreatDoor
