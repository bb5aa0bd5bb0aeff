import Derived.WalkKit
import Derived.OwnWalk
import Derived.WalkSpells
import Derived.WalkLawsBesides
import Derived.Laws.Pointers
import Derived.Deep.QuietTactic
import Derived.BigQuiet
import Derived.Outline
import Derived.Below
import Derived.Lib.QuietBelow
import Derived.Test.YtafeddiijemnbaaGreatDoorProg
import Derived.Test.YtafeddiijemnbaaGreatDoorHEntsDef
import Derived.Laws.StructEq
import Derived.Laws.Small
import Derived.KernelRfl
import Derived.Test.YtafeddiijemnbaaGreatDoorHPk00
import Derived.Test.YtafeddiijemnbaaGreatDoorHPk05
import Derived.Laws.MakeOwn
import Derived.Laws.ResultCell

namespace Go.Proofs.YtafeddiijemnbaaGreatDoor
open Go.RowKit Go.Lib
theorem eq_ent (a b c a' b' c' : _) (w : World) : (Op.equalIn 10000 53 (.agg #[.string a, .bool b, .string c]) (.agg #[.string a', .bool b', .string c'])).run Tryz.prog w = .ok ((a.toList == a'.toList) && (b == b') && (c.toList == c'.toList)) w := by
 have u9 := Tryz.underlying9; have u4 := Tryz.underlying4; have a9 := Tryz.isAgg9; have a4 := Tryz.isAgg4; have z9 := Tryz.sizeOf9; have z4 := Tryz.sizeOf4; have hS : Tryz.prog.underlying 53 = some (.struct (Tryz.prog.fieldsOf 53)) := by kernel_rfl
 have hp : Tryz.prog.stoodInHeld 53 = false := by kernel_rfl
 rw [show (10000 : Nat) = 9999 + 1 from rfl, run_equalIn_agg w 9999 53 _ _ hS hp]; simp only [Program.fieldsOf, Tryz.underlying53]; go_simp; cases h1 : (a.toList == a'.toList) <;> cases h2 : (b == b') <;> cases h3 : (c.toList == c'.toList) <;> simp_all
theorem guard_ent (op : BinOp) (x y : Operand) (xs ys : Array Value) (w : World) : (eqGuard op 53 x y (.agg xs) (.agg ys)).run Tryz.prog w = .ok () w := run_eqGuard_agg w op 53 x y xs ys (by kernel_rfl)
attribute [local go_sem] eq_ent guard_ent
theorem same_len : ∀ (es fs : List E), es.length ≠ fs.length → sameT es fs = false
 | [], [], h => absurd rfl h
 | [], _ :: _, _ => rfl
 | _ :: _, [], _ => rfl
 | e :: r, f :: q, h => by
  unfold sameT; rw [same_len r q (fun e => h (by simp [e])), Bool.and_false]
theorem below_draws' {B : Nat} {a w : World} (h : Below B a w) (n : Nat) : Below B a (w.drewN n) := h.trans ⟨rfl, rfl, rfl, Nat.le_refl _, fun _ _ => rfl⟩
end Go.Proofs.YtafeddiijemnbaaGreatDoor
namespace Go.Proofs.YtafeddiijemnbaaGreatDoor
open Go.RowKit Go.Lib
attribute [local go_sem] eq_ent guard_ent
set_option maxHeartbeats 800000 in
set_option maxRecDepth 100000 in
theorem equal_any (w : World) (a : Option Addr) (g o cap : Nat) (es : List E) (a' : Option Addr) (g' o' cap' : Nat) (fs : List E) (hl : es.length ≤ 16777216) (_hl' : fs.length ≤ 16777216) (ha : 0 < es.length → a = some ⟨g, o, none⟩) (ha' : 0 < fs.length → a' = some ⟨g', o', none⟩) (hE : Ents w g o es) (hF : Ents w g' o' fs) :
  Calls Tryz.prog 18 #[.slice a es.length cap, .slice a' fs.length cap'] w fun e w' => e = .returned (.bool (sameT es fs)) ∧ Below w.heap.size w w' := by
 have HE := hidE hE; have HF := hidE hF; clear hE hF; by_cases hn : es.length = fs.length
 ·
  have hb : ((es.length : Int) != (fs.length : Int)) = false := by rw [hn]; simp
  have hle : fs.length ≤ es.length := by omega
  have hge : es.length ≤ fs.length := by omega
  clear hn; go_enter Tryz.func18, Tryz.ntmps18
  go_wp2
  go_loopw [13] (fun iv wl => ∃ k : Nat, k ≤ es.length ∧ iv = .int .i64 k ∧ Hid (Below w.heap.size w wl) ∧ Hid (sameT es fs = sameT (es.drop k) (fs.drop k))) (fun iv _ => es.length - (RowKit.intOf iv).toNat)
  case atStart => exact ⟨0, Nat.zero_le _, rfl, Below.refl _ _, rfl⟩
  case round =>
   obtain ⟨k, hk, rfl, HB, HS⟩ := hrel; by_cases hlt : k < es.length
   ·
    have hlt' : k < fs.length := by omega
    obtain rfl := ha (by omega); obtain rfl := ha' (by omega); obtain ⟨c0, c1, c2⟩ := (HE.out.below HB.out) k hlt; obtain ⟨c0', c1', c2'⟩ := (HF.out.below HB.out) k hlt'; have HD := hidE (same_drop es fs k hlt hlt'); by_cases h1 : es[k].p.toList = fs[k].p.toList
    ·
     by_cases h2 : es[k].d = fs[k].d
     ·
      by_cases h3 : es[k].x.toList = fs[k].x.toList
      ·
       have HN : Hid (sameT es fs = sameT (es.drop (k + 1)) (fs.drop (k + 1))) := by show _ = _; rw [HS.out, HD.out]; unfold sameT1; simp [*]
       go_wp2
       go_quiet (fail)
       go_wp2
       go_roundw
       case rel => exact ⟨k + 1, by omega, by go_num, below_draws' HB.out _, HN⟩
       case measure => simp [RowKit.intOf]; omega
      ·
       have HN : Hid (sameT es fs = false) := by show _ = _; rw [HS.out, HD.out]; unfold sameT1; simp [*]
       go_wp2
       go_quiet (fail)
       go_wp2
       go_ret
       exact ⟨ret_bE HN.out.symm, below_draws' HB.out _⟩
     ·
      have HN : Hid (sameT es fs = false) := by show _ = _; rw [HS.out, HD.out]; unfold sameT1; simp [*]
      go_wp2
      go_quiet (fail)
      go_wp2
      go_ret
      exact ⟨ret_bE HN.out.symm, below_draws' HB.out _⟩
    ·
     have HN : Hid (sameT es fs = false) := by show _ = _; rw [HS.out, HD.out]; unfold sameT1; simp [*]
     go_wp2
     go_quiet (fail)
     go_wp2
     go_ret
     exact ⟨ret_bE HN.out.symm, below_draws' HB.out _⟩
   ·
    go_wp2
    go_ret
    exact ⟨ret_bE (by rw [HS.out, List.drop_of_length_le (by omega), List.drop_of_length_le (by omega)]; rfl), HB.out⟩
 ·
  have hn2 : ((es.length : Int) == (fs.length : Int)) = false := by rw [beq_eq_false_iff_ne]; omega
  go_enter Tryz.func18, Tryz.ntmps18
  go_wp2
  go_ret
  exact ⟨ret_bE (same_len es fs hn).symm, Below.refl _ _⟩
theorem iTreeSame_any (w : World) (a : Option Addr) (g o cap : Nat) (es : List E) (a' : Option Addr) (g' o' cap' : Nat) (fs : List E) (hl : es.length ≤ 16777216) (hl' : fs.length ≤ 16777216) (ha : 0 < es.length → a = some ⟨g, o, none⟩) (ha' : 0 < fs.length → a' = some ⟨g', o', none⟩) (hE : Ents w g o es) (hF : Ents w g' o' fs) :
  Calls Tryz.prog 8 #[.slice a es.length cap, .slice a' fs.length cap'] w fun e w' => e = .returned (.bool (sameT es fs)) ∧ Below w.heap.size w w' := by
 have HQ := hidE (equal_any w a g o cap es a' g' o' cap' fs hl hl' ha ha' hE hF); clear hE hF ha ha'; go_enter Tryz.func8, Tryz.ntmps8
 go_wp2_with (go_at_call 18; refine HQ.out.mono ?_; rintro e w1 ⟨rfl, hB1⟩)
 go_ret
 exact ⟨rfl, hB1⟩
end Go.Proofs.YtafeddiijemnbaaGreatDoor
namespace Go.Proofs.YtafeddiijemnbaaGreatDoor
open Go.RowKit Go.Lib
theorem eq_op (k p t x k' p' t' x' : _) (w : World) : (Op.equalIn 10000 25 (.agg #[.int .i64 k, .string p, .string t, .string x]) (.agg #[.int .i64 k', .string p', .string t', .string x'])).run Tryz.prog w = .ok ((k == k') && (p.toList == p'.toList) && (t.toList == t'.toList) && (x.toList == x'.toList)) w := by
 have u9 := Tryz.underlying9; have u3 := Tryz.underlying3; have a9 := Tryz.isAgg9; have a3 := Tryz.isAgg3; have z9 := Tryz.sizeOf9; have z3 := Tryz.sizeOf3; have hS : Tryz.prog.underlying 25 = some (.struct (Tryz.prog.fieldsOf 25)) := by kernel_rfl
 have hp : Tryz.prog.stoodInHeld 25 = false := by kernel_rfl
 rw [show (10000 : Nat) = 9999 + 1 from rfl, run_equalIn_agg w 9999 25 _ _ hS hp]; simp only [Program.fieldsOf, Tryz.underlying25]; go_simp; cases h0 : (k == k') <;> cases h1 : (p.toList == p'.toList) <;> cases h2 : (t.toList == t'.toList) <;> cases h3 : (x.toList == x'.toList) <;> simp_all
theorem guard_op (op : BinOp) (x y : Operand) (xs ys : Array Value) (w : World) : (eqGuard op 25 x y (.agg xs) (.agg ys)).run Tryz.prog w = .ok () w := run_eqGuard_agg w op 25 x y xs ys (by kernel_rfl)
open Go.Sort
def Room (w : World) (g n : Nat) : Prop := ∀ i, i < n → (∃ v, w.cell? ⟨g, i, none⟩ = some v) ∧ w.frozen? ⟨g, i, none⟩ = false
theorem Room.below {w w' : World} {g n : Nat} (h : Room w g n) (hb : Below w.heap.size w w') : Room w' g n := fun i hi => by
 obtain ⟨⟨v, hv⟩, hf⟩ := h i hi; have lt : g < w.heap.size := World.block_lt_of_cell? w ⟨g, i, none⟩ hv; exact ⟨⟨v, (hb.cell (p := ⟨g, i, none⟩) lt).trans hv⟩, (hb.frozen (p := ⟨g, i, none⟩) lt).trans hf⟩
end Go.Proofs.YtafeddiijemnbaaGreatDoor
