/-
  The walks of the program's own: all that is below a directory, yielded; all of a tree.
-/
import Derived.Test.YtbcogekeoklddaaDoorHTellI
namespace Go.Proofs.YtbcogekeoklddaaDoor
open Go.RowKit Go.Shelf Go.Lib Go.Maps

attribute [local go_sem] Oper.semAt_some

theorem yieldAt_wide {m m' : Nat} {P : Program} {l : Nat} {args : Array Value} {w : World} {R : Ending → World → Prop} (h : YieldAt Fence.wide m P l args w R) : YieldAt Fence.wide m' P l args w R := by
  obtain ⟨fn, tmps, assign, body, hy, hR⟩ := h
  exact ⟨fn, tmps, assign, body, hy, roundIn_wide hR⟩
theorem items_of {α : Type} (Lt : List α) : ∃ ks : List { x : α // x ∈ Lt }, ks.map Subtype.val = Lt :=
  ⟨Lt.attach, by simp⟩

set_option maxHeartbeats 1000000 in
set_option maxRecDepth 100000 in
theorem below_stops (n : Nat) (hn : 1 ≤ n) (es : List E) (A : ByteArray → Nat) (base N vb : Nat) (hN : N ≤ 1000) (hes : es.length ≤ 1000) (T : TrE es) (p q : ByteArray) (hq : q.size ≤ 1000) (d : Bool) (x : ByteArray) (m : Option Nat)
    (hm : (dirE es p = true ∧ m = some (A p)) ∨ (m = none ∧ told es p q = [])) (bn bp : Nat) (w : World) (hbn : bn < w.heap.size) (hbp : bp < w.heap.size)
    (c0 : w.cell? ⟨bn, 0, none⟩ = some (.bool d)) (c1 : w.cell? ⟨bn, 1, none⟩ = some (.string x)) (c2 : w.cell? ⟨bn, 2, none⟩ = some (.map m)) (c3 : w.cell? ⟨bp, 0, none⟩ = some (.string q)) (R : Rep w base N es A) (hv : vb < w.heap.size) (hG : Good vb w) (hlev : 0 ≤ levS p) :
    SeqStopsK Fence.wide n Tryd.prog 70 #[.pointer (some ⟨bn, 0, none⟩), .pointer (some ⟨bp, 0, none⟩)] (encsT A (Lt := told es p q)) (KpT vb) (fun xs => xs.map Subtype.val = told es p q) (fun pre => pre.map Subtype.val <+: told es p q) (told es p q).length w := fun l J Jx W hW hJ hJx hY h0 => by
  have d0 := (hW.cell (p := ⟨bn, 0, none⟩) hbn).trans c0
  have d1 := (hW.cell (p := ⟨bn, 1, none⟩) hbn).trans c1
  have d2 := (hW.cell (p := ⟨bn, 2, none⟩) hbn).trans c2
  have d3 := (hW.cell (p := ⟨bp, 0, none⟩) hbp).trans c3
  have hk := kpt_of hW hv
  obtain ⟨ks, hks⟩ := items_of (told es p q)
  have hlen : ks.length = (told es p q).length := by
    have := congrArg List.length hks
    rwa [List.length_map] at this
  have HT := hid (tell_at es A base N vb l (told es p q).length W.heap.size hN hes J Jx hJ T (fun pre y W1 h1 h2 m' => yieldAt_wide (hY pre y W1 h1 h2)) 3 p q d m (by omega) (by omega) hm (fun _ h => h)
    W [] ks x hks h0 (by simp; omega) (R.below hW) (Nat.lt_of_lt_of_le hv hW.size) (hk.good hG) (Nat.le_refl _))
  have HK := hid hks
  clear hY hJ hJx h0 c0 c1 c2 c3 hW R hks hk
  refine callsIn_of_wp Tryd.func70 rfl trivial ?_ rfl
  simp only [Tryd.ntmps70, List.size_toArray, List.length_cons, List.length_nil, Nat.reduceAdd, Nat.reduceSub, Array.replicate_succ, Array.replicate_zero, List.push_toArray, List.append_toArray, List.nil_append, List.cons_append]
  gi_wp2_with (refine ⟨trivial, ?_⟩; gi_at_call 71; refine (callsIn_wide.2 HT.out).mono ?_)
  rintro e W' (⟨rfl, hJ', -⟩ | ⟨rfl, ks', hpf, hJx'⟩)
  · gi_wp2
    refine bodyPost_end (results_none rfl _ _ _) rfl ?_
    exact ⟨⟨_, rfl⟩, .inl ⟨ks, HK.out, hJ'⟩⟩
  · gi_wp2
    refine bodyPost_end (results_none rfl _ _ _) rfl ?_
    exact ⟨⟨_, rfl⟩, .inr ⟨ks', by have h := hpf.map Subtype.val; rw [HK.out] at h; exact h, hJx'⟩⟩

theorem below_any (d : Bool) (x : ByteArray) (m : Option Nat) (q : ByteArray) (w : World) :
    Calls Tryd.prog 47 #[.agg #[.bool d, .string x, .map m], .string q] w fun e w' => e = .returned (.func (.func 70) #[] #[.pointer (some ⟨w.heap.size, 0, none⟩), .pointer (some ⟨w.heap.size + 1, 0, none⟩)]) ∧ Below w.heap.size w w' ∧ w'.heap.size = w.heap.size + 2 ∧
      w'.cell? ⟨w.heap.size, 0, none⟩ = some (.bool d) ∧ w'.cell? ⟨w.heap.size, 1, none⟩ = some (.string x) ∧ w'.cell? ⟨w.heap.size, 2, none⟩ = some (.map m) ∧ w'.cell? ⟨w.heap.size + 1, 0, none⟩ = some (.string q) := by
  go_enter Tryd.func47, Tryd.ntmps47
  go_wp2
  go_ret
  exact ⟨rfl, ((Below.refl _ w).alloc (Nat.le_refl _) _).alloc (by simp) _, by simp, by simp, by simp, by simp, by simp⟩
/-- What all tells of a tree: the program, and where what it reads lies. -/
theorem all_any (A : ByteArray → Nat) (w : World) :
    Calls Tryd.prog 26 #[treeV A] w fun e w' => ∃ b, w.heap.size ≤ b ∧ b + 1 < w'.heap.size ∧ e = .returned (.func (.func 70) #[] #[.pointer (some ⟨b, 0, none⟩), .pointer (some ⟨b + 1, 0, none⟩)]) ∧ Below w.heap.size w w' ∧
      w'.cell? ⟨b, 0, none⟩ = some (.bool true) ∧ w'.cell? ⟨b, 1, none⟩ = some (.string ⟨#[]⟩) ∧ w'.cell? ⟨b, 2, none⟩ = some (.map (some (A ⟨#[47]⟩))) ∧ w'.cell? ⟨b + 1, 0, none⟩ = some (.string ⟨#[]⟩) := by
  have hB0 : Below w.heap.size w (w.alloc (.cells #[.bool true, .string ⟨#[]⟩, .map (some (A ⟨#[47]⟩))] 53)) := (Below.refl _ w).alloc (Nat.le_refl _) _
  go_enter Tryd.func26, Tryd.ntmps26
  go_wp2_with (go_at_call 47; refine (below_any _ _ _ _ _).mono ?_; rintro e w1 ⟨rfl, hB1, hs1, k0, k1, k2, k3⟩)
  go_ret
  simp only [World.size_alloc] at k0 k1 k2 k3 hs1
  exact ⟨w.heap.size + 1, by omega, by omega, by simp, hB0.trans (hB1.mono (by simp)), k0, k1, k2, k3⟩
end Go.Proofs.YtbcogekeoklddaaDoor
