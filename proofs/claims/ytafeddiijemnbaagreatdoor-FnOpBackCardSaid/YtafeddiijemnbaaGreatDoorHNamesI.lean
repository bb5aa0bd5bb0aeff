import Derived.Sort.KeysCollected
import Derived.Test.YtafeddiijemnbaaGreatDoorHKeysLaid
import Derived.Test.YtafeddiijemnbaaGreatDoorHPk01
import Derived.Test.YtafeddiijemnbaaGreatDoorHPk06
namespace Go.Proofs.YtafeddiijemnbaaGreatDoor
open Go.RowKit Go.Shelf Go.Lib Go.Maps Go.Sort
attribute [local go_sem] Oper.semAt_some
theorem hidN {p : Prop} (h : p) : Hid p := h
theorem has_len {w : World} {b n : Nat} {D : DataW Value} (hown : w.ownsMap Tryz.prog 9 selfR b n D) {x : List UInt8} (h : Maps.has D (.string x) = true) : x.length ≤ maxLen := by
 obtain ⟨es, rfl, hko⟩ := hown.keysOf; rw [has_eq, List.any_eq_true] at h; obtain ⟨p, hp, hs⟩ := h; obtain ⟨v, hv⟩ := hko p hp; obtain ⟨y, _, hy, hl⟩ := Maps.keyOf_str Tryz.underlying9 hv; have := WideAt.sameKey_eq hs; rw [hy] at this
 injection this with this
 rw [← this]; exact hl
theorem sorted_is {w : World} {b : Nat} {f : ByteArray → Option Value} {D : DataW Value} {n : Nat} (hown : w.ownsMap Tryz.prog 9 selfR b n D)
  (hD : ∀ s : ByteArray, s.size ≤ maxLen → Maps.has D (.string s.data.toList) = (f s).isSome ∧ D.atKey (.string s.data.toList) (.held zeroN) = .held ((f s).getD zeroN))
  {ks : List ByteArray} (hr : ks.Pairwise less) (hk : ∀ s : ByteArray, s ∈ ks ↔ s.size ≤ maxLen ∧ (f s).isSome = true) {ss : List (List UInt8)} (hp : ss.Perm (strKeys D)) :
  (ss.mergeSort (fun x y => decide (x ≤ y))).map encStr = ks.map Value.string ∧ ss.length = ks.length := by
 have hlt : ∀ a b : ByteArray, less a b → L a < L b := fun a b h => by
  have := less_L.1 h; rw [bytesLess_eq] at this; exact of_decide_eq_true this
 have hcol : Collected D (fun _ => false) (ks.map L) := by
  refine ⟨?_, fun x => ?_⟩
  ·
   show (ks.map L).Pairwise (· ≠ ·)
   rw [List.pairwise_map]
   exact hr.imp fun {a b} h e => by
    have e' : a = b := L_inj e; rw [e'] at h; exact less_irrefl _ h
  ·
   rw [List.mem_map]
   constructor
   ·
    rintro ⟨s, hs, rfl⟩; obtain ⟨h1, h2⟩ := (hk s).1 hs; exact ⟨(hD s h1).1.trans h2, rfl⟩
   ·
    rintro ⟨h, _⟩; have hl := has_len hown h; refine ⟨⟨x.toArray⟩, (hk _).2 ⟨by show x.toArray.size ≤ maxLen; simpa using hl, ?_⟩, by show x.toArray.toList = x; simp⟩; have := (hD ⟨x.toArray⟩ (by show x.toArray.size ≤ maxLen; simpa using hl)).1; rw [← this]; simpa using h
 have hpk := hcol.perm hown keyLaw Tryz.underlying9 (fun _ => rfl); have hperm : ss.Perm (ks.map L) := hp.trans hpk.symm
 have hsort : (ks.map L).mergeSort leB = ks.map L := by
  refine List.mergeSort_of_pairwise ?_; rw [List.pairwise_map]
  exact hr.imp fun {a b} h => by
   have := hlt a b h; simp only [leB, decide_eq_true_eq]; exact List.le_of_lt this
 constructor
 ·
  have := mergeSort_of_perm hperm; rw [hsort] at this; rw [show (fun x y : List UInt8 => decide (x ≤ y)) = leB from rfl, this, List.map_map]; refine List.map_congr_left fun s _ => ?_; show Value.string ⟨(s.data.toList).toArray⟩ = Value.string s
  simp
 ·
  rw [hperm.length_eq, List.length_map]
theorem kids_some {es : List E} {A : ByteArray → Nat} (T : TrE es) {p : ByteArray} (hp : stemOk p = true) (s : ByteArray) : s ∈ kidsE es p ↔ s.size ≤ maxLen ∧ (kidF es A p s).isSome = true := by
 rw [kids_mem T hp]; unfold kidF
 constructor
 ·
  rintro ⟨h1, e, h2⟩; rw [h1, if_pos rfl, h2]; refine ⟨?_, rfl⟩; unfold nameB at h1; rw [Bool.and_eq_true] at h1; have := (of_decide_eq_true h1.1).2; unfold maxLen; omega
 ·
  rintro ⟨_, h⟩; by_cases hn : nameB s = true
  ·
   rw [if_pos hn] at h; refine ⟨hn, ?_⟩; cases hl : lookE es (joinI p s) with
   | none => rw [hl] at h; cases h
   | some e => exact ⟨e, rfl⟩
  ·
   rw [if_neg hn] at h; cases h
set_option maxHeartbeats 1000000 in
set_option maxRecDepth 100000 in
theorem names_dir (w : World) (base N : Nat) (es : List E) (A : ByteArray → Nat) (T : TrE es) (R : Rep w base N es A) (hN : N ≤ 1000) (p : ByteArray) (hdir : dirE es p = true) (d : Bool) (x : ByteArray) :
  Calls Tryz.prog 87 #[.agg #[.bool d, .string x, .map (some (A p))]] w fun r w' => ∃ v, r = .returned v ∧ w'.ownsRow w.heap.size 9 1 v (kidsE es p).length ((kidsE es p).map Value.string) ∧ Below w.heap.size w w' := by
 have hB0 : Below w.heap.size w (w.alloc (.cells #[.bool d, .string x, .map (some (A p))] 36)) := (Below.refl _ w).alloc (Nat.le_refl _) _; obtain ⟨D, n, hown, hn, hD⟩ := (R.below hB0).kids p hdir; have hsz := hown.size_le; have HS := hidN (fun (ss : List (List UInt8)) (hp : ss.Perm (strKeys D)) => sorted_is hown hD (kids_rise T) (kids_some (A := A) T (T.dirOk hdir)) hp); have hsk := sortedKeys (A p) n D selfR _ hown (by unfold maxLen; omega) (by omega); simp only [World.size_alloc] at hsk; have HSK := hidN hsk; clear hsk; clear hown hD hsz; refine (callsIn_wide (n := 6)).1 ?_; have hfK : Fence.wide.fn 89 := trivial; have hfS : Fence.wide.fn 88 := trivial; refine callsIn_of_wp Tryz.func87 rfl trivial ?_ rfl; simp only [Tryz.ntmps87, List.size_toArray, List.length_cons, List.length_nil, Nat.reduceAdd, Nat.reduceSub, Array.replicate_succ, Array.replicate_zero, List.push_toArray, List.append_toArray, List.nil_append, List.cons_append]
 gi_wp2_with (first
  | (gi_at_call 89; refine (keysIn _ _).mono ?_; rintro e w' ⟨rfl, rfl⟩)
  | (gi_at_call 88; refine HSK.out.mono ?_; rintro e w' ⟨v, ss, rfl, hS, hrow, hnil, hb⟩))
 go_ret
 obtain ⟨e1, e2⟩ := HS.out ss hS; rw [e1, e2] at hrow; exact ⟨v, rfl, ownsRow_base_a hrow (by omega), (((Below.refl _ w).alloc (Nat.le_refl _) _).alloc (by simp) _).trans (hb.mono (by omega))⟩
set_option maxHeartbeats 1000000 in
set_option maxRecDepth 100000 in
theorem names_nil (w : World) (d : Bool) (x : ByteArray) :
  Calls Tryz.prog 87 #[.agg #[.bool d, .string x, .map none]] w fun r w' => ∃ v, r = .returned v ∧ w'.ownsRow w.heap.size 9 1 v 0 [] ∧ Below w.heap.size w w' := by
 have hsk := sortedKeysNil (w.alloc (.cells #[.bool d, .string x, .map none] 36)); simp only [World.size_alloc] at hsk; have HSK := hidN hsk; clear hsk; refine (callsIn_wide (n := 6)).1 ?_; have hfK : Fence.wide.fn 89 := trivial; have hfS : Fence.wide.fn 88 := trivial; refine callsIn_of_wp Tryz.func87 rfl trivial ?_ rfl; simp only [Tryz.ntmps87, List.size_toArray, List.length_cons, List.length_nil, Nat.reduceAdd, Nat.reduceSub, Array.replicate_succ, Array.replicate_zero, List.push_toArray, List.append_toArray, List.nil_append, List.cons_append]
 gi_wp2_with (first
  | (gi_at_call 89; refine (keysIn _ _).mono ?_; rintro e w' ⟨rfl, rfl⟩)
  | (gi_at_call 88; refine HSK.out.mono ?_; rintro e w' ⟨v, ss, rfl, hS, hrow, hnil, hb⟩))
 go_ret
 subst hS; have hrow' : w'.ownsRow (w.heap.size + 1 + 1) 9 1 v 0 [] := by simpa using hrow
 exact ⟨v, rfl, ownsRow_base_a hrow' (by omega), (((Below.refl _ w).alloc (Nat.le_refl _) _).alloc (by simp) _).trans (hb.mono (by omega))⟩
end Go.Proofs.YtafeddiijemnbaaGreatDoor
