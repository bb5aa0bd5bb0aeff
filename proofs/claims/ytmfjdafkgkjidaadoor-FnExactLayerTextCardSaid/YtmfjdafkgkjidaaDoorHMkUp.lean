/-
  The walk of the program's own: a path and all that it is below, yielded.
-/
import Derived.Test.YtmfjdafkgkjidaaDoorHMkSign2
namespace Go.Proofs.YtmfjdafkgkjidaaDoor.Mk
open Go.RowKit Go.Shelf Go.Lib

attribute [local go_sem] Oper.semAt_some

theorem abides_below {β : Type} {B : Nat} {J : β → World → Prop} (hJ : AbidesFrom B J) {s : β} {W W' : World} (h : J s W) (hb : Below W.heap.size W W') : J s W' :=
  hJ s W W' none h ⟨hb.os, hb.tape, hb.output, hb.size, fun k hk _ => hb.block k hk⟩ (fun r e => by cases e)
abbrev ItemU (s : ByteArray) : Type := { x : ByteArray // x ∈ ups s }
abbrev encsU {s : ByteArray} (x : ItemU s) : Array Value := #[.string x.1]
def KpU (_ _ : World) : Prop := True
theorem inUps {s a : ByteArray} {pre : List ByteArray} (hp : pathB a = true) (h : pre ++ ups a = ups s) : a ∈ ups s := by
  rw [← h, ups_yes hp]; simp

set_option maxHeartbeats 1000000 in
set_option maxRecDepth 100000 in
theorem ups_stops (n : Nat) (hn : 1 ≤ n) (Bn : Nat) (s : ByteArray) (hs : s.size ≤ 16777216) (w : World) (hBn : Bn < w.heap.size) (hb : w.cell? ⟨Bn, 0, none⟩ = some (.string s)) :
    SeqStopsK Fence.wide n Tryd.prog 89 #[.pointer (some ⟨Bn, 0, none⟩)] (encsU (s := s)) KpU (fun xs => xs.map Subtype.val = ups s) (fun pre => pre.map Subtype.val <+: ups s) (ups s).length w := fun l J Jx W hW hJ hJx hY h0 => by
  have hbW : W.cell? ⟨Bn, 0, none⟩ = some (.string s) := (hW.cell (p := ⟨Bn, 0, none⟩) hBn).trans hb
  clear hb hW
  refine callsIn_of_wp Tryd.func89 rfl trivial ?_ rfl
  simp only [Tryd.ntmps89, List.size_toArray, List.length_cons, List.length_nil, Nat.reduceAdd, Nat.reduceSub, Array.replicate_succ, Array.replicate_zero, List.push_toArray, List.append_toArray, List.nil_append, List.cons_append]
  have HY := hid hY
  have HJ := hid hJ
  clear hY hJ hJx
  gi_wp2
  gi_loopg [3] (ups s).length (fun gf st wx => ∃ (a : ByteArray) (pre : List (ItemU s)), st = .string a ∧ a.size ≤ 16777216 ∧ J pre wx ∧ (ups a).length ≤ gf ∧ Hid (pre.map Subtype.val ++ ups a = ups s))
  case atStart => exact ⟨s, [], rfl, hs, h0, Nat.le_refl _, rfl⟩
  case round =>
    obtain ⟨a, pre, rfl, ha, hJs, hfu, HI⟩ := hrel
    have HO := hid (fun W => pOk_any a ha W)
    cases hp : pathB a with
    | false =>
      rw [hp] at HO
      have HE : Hid (pre.map Subtype.val = ups s) := by
        show _ = _
        have := HI.out
        rwa [ups_no hp, List.append_nil] at this
      gi_wp2_with (refine ⟨trivial, ?_⟩; gi_at_call 52; refine (callsIn_wide.2 (HO.out _)).mono ?_; rintro e w1 ⟨rfl, hB1⟩)
      refine ⟨fun _ h => (by cases h), ?_⟩
      gi_wp2
      go_end0
      exact ⟨⟨_, rfl⟩, .inl ⟨pre, HE.out, abides_below HJ.out hJs hB1⟩⟩
    | true =>
      rw [hp] at HO
      have HP := hid hp
      have hup := up_lt hp
      have HU := hid (fun W => iPathUp_any a ha W)
      have hin := inUps hp HI.out
      have hlen : pre.length < (ups s).length := by
        have := congrArg List.length HI.out
        rw [List.length_append, List.length_map, ups_yes hp] at this
        simp at this
        omega
      have HI3 : Hid ((pre ++ [(⟨a, hin⟩ : ItemU s)]).map Subtype.val ++ ups (upS a) = ups s) := by
        show _ = _
        refine Eq.trans ?_ HI.out
        rw [ups_yes hp]; simp
      have hfu2 : (ups (upS a)).length + 1 ≤ gk := by
        have := hfu
        rw [ups_yes hp] at this
        simpa using this
      obtain ⟨g', rfl⟩ : ∃ g', gk = g' + 1 := ⟨gk - 1, by omega⟩
      clear HI hp hfu
      gi_wp2_with (refine ⟨trivial, ?_⟩; gi_at_call 52; refine (callsIn_wide.2 (HO.out _)).mono ?_; rintro e w1 ⟨rfl, hB1⟩; obtain ⟨fn, tmps, assign, body, hy, hR⟩ := HY.out pre ⟨a, hin⟩ w1 (abides_below HJ.out hJs hB1) hlen; dsimp only [encsU] at hy)
      refine hR.mono ?_
      rintro e W3 (⟨rfl, hJ3, -⟩ | ⟨rfl, hJx3⟩)
      · gi_wp2_with (refine ⟨trivial, ?_⟩; gi_at_call 70; refine (callsIn_wide.2 (HU.out _)).mono ?_; rintro e w4 ⟨rfl, hB4⟩)
        gi_roundg g'
        case measure => omega
        case rel => exact ⟨upS a, _, rfl, by omega, abides_below HJ.out hJ3 hB4, by omega, HI3⟩
      · gi_wp2
        go_end0
        exact ⟨⟨_, rfl⟩, .inr ⟨_, ⟨_, HI3.out⟩, hJx3⟩⟩
theorem upward_any (s : ByteArray) (w : World) :
    Calls Tryd.prog 86 #[.string s] w fun e w' => e = .returned (.func (.func 89) #[] #[.pointer (some ⟨w.heap.size, 0, none⟩)]) ∧ w' = w.alloc (.cells #[.string s] 9) := by
  go_enter Tryd.func86, Tryd.ntmps86
  go_wp2
  go_ret
  exact ⟨rfl, rfl⟩
end Go.Proofs.YtmfjdafkgkjidaaDoor.Mk
