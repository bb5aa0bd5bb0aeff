import Derived.Test.YteppodogghjfhaaGreatDoorHLyDfI
import Derived.Test.YteppodogghjfhaaGreatDoorHPk22
namespace Go.Proofs.YteppodogghjfhaaGreatDoor.Ly
open Go.Lib
theorem onE_no {l : List Mk.E} {t : List E} (h : onB l t = false) : onE l t = [] := by unfold onE; rw [h]; rfl
theorem nodup_sub {α : Type} [DecidableEq α] : ∀ (l r : List α), l.Nodup → (∀ x ∈ l, x ∈ r) → l.length ≤ r.length
 | [], _, _, _ => Nat.zero_le _
 | x :: l, r, h, hs => by
  obtain ⟨h1, h2⟩ := List.nodup_cons.1 h; have hx := hs x (List.mem_cons_self ..)
  have := nodup_sub l (r.erase x) h2 (fun y hy => by
   have hne : y ≠ x := fun e => h1 (by rw [← e]; exact hy)
   exact (List.mem_erase_of_ne hne).2 (hs y (List.mem_cons_of_mem _ hy)))
  rw [List.length_erase_of_mem hx] at this; have hp := List.length_pos_of_mem hx; rw [List.length_cons]; omega
structure DfP (a b : List E) : Prop where
 T : TrE a
 U : TrE b
 la : a.length ≤ 16
 lb : b.length ≤ 16
def ksD (a b : List E) : List ByteArray := (turnE a b).filter (kept b)
theorem DfP.of {a b : List E} (ha : treeE a = true) (hb : treeE b = true) : DfP a b := ⟨(treeE_tr ha).1, (treeE_tr hb).1, (treeE_tr ha).2, (treeE_tr hb).2⟩
theorem DfP.paths {a b : List E} (P : DfP a b) : ∀ s ∈ turnE a b, pathB s = true := fun s hs => by
 have hd := (turnE_mem P.T P.U s).1 hs; cases h : lookE a s with
 | some e => exact look_path P.T h
 | none =>
  cases h' : lookE b s with
  | some e => exact look_path P.U h'
  | none => exact absurd (h.trans h'.symm) hd
theorem DfP.isD {a b : List E} (P : DfP a b) : IsD b (ksD a b) (diffM a b) := by
 have := diff_is P.U (turnE a b) [] [] (IsD.nil b) P.paths; rw [List.nil_append] at this; exact this
theorem DfP.ks_mem {a b : List E} (P : DfP a b) (s : ByteArray) : s ∈ ksD a b ↔ differ a b s ∧ kept b s = true := by
 unfold ksD; rw [List.mem_filter, turnE_mem P.T P.U]
theorem DfP.ks_ok {a b : List E} (P : DfP a b) : ∀ s ∈ ksD a b, pathB s = true ∧ kept b s = true := fun s hs =>
 ⟨P.paths s (List.mem_filter.1 hs).1, (List.mem_filter.1 hs).2⟩
theorem dm_plain {b : List E} (U : TrE b) (s : ByteArray) : (dm b s).d ≠ 1 → (dm b s).x = ⟨#[]⟩ := by
 unfold dm; cases hlk : lookE b s with
 | none => intro _; rfl
 | some e =>
  dsimp only; intro h1; cases hd : e.d with
  | true => exact (U.data e (look_mem hlk).1).2 hd
  | false => rw [hd] at h1; exact absurd rfl h1
theorem dm_data {b : List E} (U : TrE b) (s : ByteArray) : dataB (dm b s).x = true := by
 unfold dm; cases hlk : lookE b s with
 | none => rfl
 | some e => exact (U.data e (look_mem hlk).1).1
theorem dm_three (b : List E) (s : ByteArray) : (dm b s).d = 1 ∨ (dm b s).d = 2 ∨ (dm b s).d = 3 := by
 unfold dm
 split
 ·
  dsimp only; split
  ·
   exact .inr (.inl rfl)
  ·
   exact .inl rfl
 ·
  exact .inr (.inr rfl)
theorem DfP.rt {a b : List E} (P : DfP a b) : RtM (diffM a b) where
 tr := P.isD.tr P.U P.ks_ok
 data m hm := by rw [((P.isD.mem m).1 hm).2]; exact dm_data P.U _
 plain m hm h := by rw [((P.isD.mem m).1 hm).2] at h ⊢; exact dm_plain P.U _ h
 bare m _ k hk h4 _ := by
  rw [((P.isD.mem k).1 hk).2] at h4; rcases dm_three b k.p with h | h | h <;> rw [h] at h4 <;> exact absurd h4 (by decide)
theorem DfP.in_trees {a b : List E} (P : DfP a b) {m : Mk.E} (hm : m ∈ diffM a b) : (∃ e ∈ a, e.p = m.p) ∨ (∃ e ∈ b, e.p = m.p) := by
 obtain ⟨⟨s, hs, g⟩, _⟩ := (P.isD.mem m).1 hm; obtain ⟨h1, h2⟩ := (P.ks_mem s).1 hs; rcases g with g | ⟨g1, g2⟩
 ·
  cases h : lookE a s with
  | some e => obtain ⟨k1, k2⟩ := look_mem h; exact .inl ⟨e, k1, by rw [k2, g]⟩
  | none =>
   cases h' : lookE b s with
   | some e => obtain ⟨k1, k2⟩ := look_mem h'; exact .inr ⟨e, k1, by rw [k2, g]⟩
   | none => exact absurd (h.trans h'.symm) h1
 ·
  obtain ⟨e, k1, _⟩ := above_dir P.U s.size (Nat.le_refl _) (P.ks_ok s hs).1 (kept_up P.U h2) g1 g2; obtain ⟨k2, k3⟩ := look_mem k1; exact .inr ⟨e, k2, k3⟩
theorem DfP.len {a b : List E} (P : DfP a b) : (diffM a b).length ≤ 32 := by
 have hn : ((diffM a b).map (·.p)).Nodup := by
  have hs := P.isD.sort; have : ((diffM a b).map (·.p)).Pairwise less := List.pairwise_map.2 hs; exact this.imp fun {x y} h e => by rw [e] at h; exact less_irrefl _ h
 have := nodup_sub ((diffM a b).map (·.p)) (a.map (·.p) ++ b.map (·.p)) hn (fun x hx => by
  obtain ⟨m, hm, rfl⟩ := List.mem_map.1 hx; rw [List.mem_append, List.mem_map, List.mem_map]
  exact P.in_trees hm)
 rw [List.length_map, List.length_append, List.length_map, List.length_map] at this; have := P.la; have := P.lb; omega
theorem DfP.lay {a b : List E} (P : DfP a b) : Mk.layB (diffM a b) = true := rt_lay P.rt P.len
theorem diff_yes {a b : List E} (ha : treeE a = true) (hb : treeE b = true) : diffE a b = diffM a b := by unfold diffE; rw [ha, hb]; rfl
theorem diff_no {a b : List E} (h : (treeE a && treeE b) = false) : diffE a b = [] := by unfold diffE; rw [h]; rfl
theorem diff_sz {a b : List E} (hz : ∀ e ∈ a, e.p.size ≤ 16777216 ∧ e.x.size ≤ 16777216) (hz' : ∀ e ∈ b, e.p.size ≤ 16777216 ∧ e.x.size ≤ 16777216) : (diffE a b).length ≤ 32 ∧ ∀ m ∈ diffE a b, m.p.size ≤ 16777216 ∧ m.x.size ≤ 16777216 := by
 cases h : (treeE a && treeE b) with
 | false => rw [diff_no h]; exact ⟨Nat.zero_le _, fun e he => by cases he⟩
 | true =>
  rw [Bool.and_eq_true] at h; have P := DfP.of h.1 h.2; rw [diff_yes h.1 h.2]; refine ⟨P.len, fun m hm => ⟨?_, ?_⟩⟩
  ·
   rcases P.in_trees hm with ⟨e, he, q⟩ | ⟨e, he, q⟩
   ·
    rw [← q]; exact (hz e he).1
   ·
    rw [← q]; exact (hz' e he).1
  ·
   rw [((P.isD.mem m).1 hm).2]; unfold dm; cases hlk : lookE b m.p with
   | none => exact Nat.zero_le _
   | some e => exact (hz' e (look_mem hlk).1).2
end Go.Proofs.YteppodogghjfhaaGreatDoor.Ly
