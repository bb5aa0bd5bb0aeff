/-
  Plain facts on the paths of what the laws draw.
-/
import Derived.Test.YtbcogekeoklddaaDoorHPk07
import Derived.Test.YtbcogekeoklddaaDoorHPk06
namespace Go.Proofs.YtbcogekeoklddaaDoor
open Go.Lib

/-- It begins with a stroke and a z. -/
def z2 (s : ByteArray) : Bool := s.data.toList.take 2 == [47, 122]
/-- A short text that does not. -/
def zB (s : ByteArray) : Bool := decide (s.size ≤ 16) && !z2 s
/-- A short text that is not /zz. -/
def nzz (s : ByteArray) : Bool := decide (s.size ≤ 16) && !(s.data.toList == [47, 122, 122])
theorem zB_size {s : ByteArray} (h : zB s = true) : s.size ≤ 16 := by
  unfold zB at h; rw [Bool.and_eq_true] at h; exact of_decide_eq_true h.1
theorem zB_no {s : ByteArray} (h : zB s = true) : z2 s = false := by
  unfold zB at h; rw [Bool.and_eq_true] at h; simpa using h.2
theorem zB_of {s : ByteArray} (h : s.size ≤ 16) (k : z2 s = false) : zB s = true := by
  unfold zB; rw [k]; simp [h]
theorem path_two {s : ByteArray} (h : pathB s = true) : 2 ≤ s.size := (pathB_head s h).1
theorem z2_mov {s f t : ByteArray} (h : pathB t = true) : z2 (movX s f t) = z2 t := by
  unfold z2 movX
  have : (L (t ++ s.extract f.size s.size)).take 2 = (L t).take 2 := by
    rw [L_app, List.take_append_of_le_length (by rw [L_len]; exact path_two h)]
  have e : (t ++ s.extract f.size s.size).data.toList.take 2 = t.data.toList.take 2 := this
  rw [e]
/-- What is done with such paths leaves such paths. -/
theorem do_z {es : List E} {q : O} (ht : treeE es = true) (h : ∀ e ∈ es, zB e.p = true) (hp : zB q.p = true) (hq : zB q.t = true) : ∀ e ∈ doE es q, zB e.p = true := by
  intro e he
  have hsz : e.p.size ≤ 16 := ((tree_sizes (do_tree ht)).2 e he).1
  by_cases h0 : doC es q = 0
  · have d := (done_iff es q).1 h0
    rcases d.kinds with ⟨_, _, _, _, _, _, hm⟩ | ⟨_, _, _, _, _, hm⟩ | ⟨_, _, _, _, hm⟩ | ⟨_, _, _, _, _, hm⟩ | ⟨_, _, m, hm⟩
    · rw [hm] at he
      rcases (put_mem d.T.sort _ e).1 he with r | ⟨r, _⟩
      · rw [r]; exact hp
      · exact h e r
    · rw [hm] at he
      rcases (put_mem d.T.sort _ e).1 he with r | ⟨r, _⟩
      · rw [r]; exact hp
      · exact h e r
    · rw [hm] at he
      exact h e ((off_mem _ _ _).1 he).1
    · rw [hm] at he
      exact h e ((off_mem _ _ _).1 he).1
    · rw [hm] at he
      obtain ⟨f, hf, rfl⟩ := (m.mem e).1 he
      refine zB_of hsz ?_
      cases hh : movHit f.p q.p with
      | true =>
        rw [(m.hit hf hh).1, z2_mov m.pt]
        exact zB_no hq
      | false =>
        rw [m.miss hf hh]
        exact zB_no (h f hf)
  · rw [not_done h0, if_pos ht] at he
    exact h e he

/-! ### What fills a tree -/
def zp (k : Nat) : ByteArray := ⟨#[47, 122]⟩ ++ ⟨#[97 + UInt8.ofNat k]⟩
theorem zp_facts : ∀ k, k < 26 → pathB (zp k) = true ∧ upS (zp k) = ⟨#[47]⟩ ∧ z2 (zp k) = true ∧ (zp k).size = 3 := by decide +kernel
theorem zp_ne : ∀ k, k < 26 → ∀ j, j < k → zp j ≠ zp k := by
  intro k hk j hj q
  have e := congrArg (fun s : ByteArray => s.data.toList) q
  have h : ∀ k, k < 26 → (zp k).data.toList = [47, 122, 97 + UInt8.ofNat k] := by decide +kernel
  simp only [h k hk, h j (by omega)] at e
  have e2 : 97 + UInt8.ofNat j = 97 + UInt8.ofNat k := by simpa using e
  have e3 : UInt8.ofNat j = UInt8.ofNat k := by
    have := congrArg (fun x : UInt8 => x - 97) e2
    simpa using this
  have e4 := congrArg UInt8.toNat e3
  rw [UInt8.toNat_ofNat', UInt8.toNat_ofNat'] at e4
  omega
theorem zp_nzz : ∀ k, k < 25 → nzz (zp k) = true := by decide +kernel
/-- So many files have been put. -/
def Zf (k : Nat) (fs : List E) : Prop := k ≤ fs.length ∧ ∀ e ∈ fs, z2 e.p = false ∨ ∃ j, j < k ∧ e.p = zp j
theorem Zf.step {k : Nat} {fs : List E} (ht : treeE fs = true) (h : Zf k fs) (hk : k < 26) (hl : fs.length < 16) : Zf (k + 1) (doE fs ⟨2, zp k, ⟨#[]⟩, ⟨#[]⟩⟩) := by
  obtain ⟨T, _⟩ := treeE_tr ht
  obtain ⟨h1, h2, h3, _⟩ := zp_facts k hk
  have hn : lookE fs (zp k) = none := by
    rw [look_none]
    intro e he q
    rcases h.2 e he with r | ⟨j, hj, r⟩
    · rw [q, h3] at r; cases r
    · exact zp_ne k hk j hj (r.symm.trans q)
  have hd : dirE fs (upS (zp k)) = true := by rw [h2]; exact look_dir (.inl rfl)
  have d : Done fs ⟨2, zp k, ⟨#[]⟩, ⟨#[]⟩⟩ := ⟨T, by omega, h1, .inr (.inl ⟨rfl, rfl, rfl, hd, .inl ⟨hn, hl⟩⟩)⟩
  have hm : doE fs ⟨2, zp k, ⟨#[]⟩, ⟨#[]⟩⟩ = putE fs ⟨zp k, false, ⟨#[]⟩⟩ := by rw [d.made]; rfl
  rw [hm]
  refine ⟨by rw [put_new_len fs T.sort hn]; have := h.1; omega, fun e he => ?_⟩
  rcases (put_mem T.sort _ e).1 he with r | ⟨r, _⟩
  · exact .inr ⟨k, by omega, by rw [r]⟩
  · rcases h.2 e r with q | ⟨j, hj, q⟩
    · exact .inl q
    · exact .inr ⟨j, by omega, q⟩
theorem z2_nzz {s : ByteArray} (hs : s.size ≤ 16) (h : z2 s = false) : nzz s = true := by
  unfold nzz
  cases hq : (s.data.toList == [47, 122, 122]) with
  | false => simp [hs]
  | true =>
    have e : s.data.toList = [47, 122, 122] := by simpa using hq
    unfold z2 at h
    rw [e] at h
    exact absurd h (by decide)
theorem Zf.nzz {k : Nat} {fs : List E} (ht : treeE fs = true) (h : Zf k fs) : ∀ e ∈ fs, nzz e.p = true := by
  intro e he
  obtain ⟨hl, hz⟩ := tree_sizes ht
  rcases h.2 e he with r | ⟨j, hj, r⟩
  · exact z2_nzz (hz e he).1 r
  · rw [r]; exact zp_nzz j (by have := h.1; omega)
end Go.Proofs.YtbcogekeoklddaaDoor
