/-
  The walks of the model's own: the words of a line.
-/
import Derived.Test.YtgkfhcpegdlejaaDoorHPk02
import Derived.Test.YtgkfhcpegdlejaaDoorHPk07
import Derived.Test.YtgkfhcpegdlejaaDoorHRdLines
namespace Go.Proofs.YtgkfhcpegdlejaaDoor
open Go.RowKit Go.Lib

theorem own_strs {w : World} {base n : Nat} {v : Value} {xs : List ByteArray} (h : w.ownsRow base 9 1 v n (xs.map Value.string)) (hn : n = xs.length) :
    ∃ a g cap, v = .slice a n cap ∧ (0 < n → a = some ⟨g, 0, none⟩) ∧ ∀ i (hi : i < xs.length), w.cell? ⟨g, i, none⟩ = some (.string xs[i]) := by
  have hc := fun (g : Nat) (hg : v.ownBlock = some g) => World.ownsRow.cells h hg
  rcases h.2 with ⟨rfl, e⟩ | ⟨g, cap, cur, rfl, _⟩
  · exact ⟨none, 0, 0, by rw [e], fun h => by omega, fun i hi => by omega⟩
  · refine ⟨_, g, cap, rfl, fun _ => rfl, fun i hi => ?_⟩
    have ha : (⟨g, 0, none⟩ : Addr).add i = ⟨g, i, none⟩ := by unfold Addr.add; split <;> simp_all
    have := hc g rfl i (.string xs[i]) (by rw [List.getElem?_map, List.getElem?_eq_getElem hi]; rfl)
    rw [ha] at this
    exact this

set_option maxHeartbeats 1600000 in
set_option maxRecDepth 100000 in
theorem l6Ent_any (s : ByteArray) (hs : s.size ≤ 16777216) (w : World) :
    Calls Tryd.prog 50 #[.string s] w fun r w' => r = .returned (.tuple #[.string (partL s).1, .string (partL s).2.1, .string (partL s).2.2]) ∧ Below w.heap.size w w' := by
  have HC := hidE (l10Cut_any s 32 hs w)
  obtain ⟨cs, hcs⟩ : ∃ cs, cut 32 s = cs := ⟨_, rfl⟩
  have hpl : partL s = if cs.length < 2 ∨ 3 < cs.length then (⟨#[]⟩, ⟨#[]⟩, ⟨#[]⟩) else (cs.getD 0 ⟨#[]⟩, cs.getD 1 ⟨#[]⟩, cs.getD 2 ⟨#[]⟩) := by unfold partL; rw [hcs]
  have hlen : cs.length ≤ 16777217 := by
    rw [← hcs]; unfold cut cutAt
    have h1 := cutL_length 32 s (s.data.toList.drop 0) 0 0
    have h2 : s.data.toList.length = s.size := lb_len s
    rw [List.length_drop] at h1
    omega
  rw [hcs] at HC
  clear hcs
  by_cases hb : cs.length < 2 ∨ 3 < cs.length
  · rw [hpl, if_pos hb]
    clear hpl
    by_cases h2 : cs.length < 2
    · go_enter Tryd.func50, Tryd.ntmps50
      go_wp2_with (first | (go_at_call 86; refine HC.out.mono ?_; rintro e w1 ⟨v1, rfl, hown, hB1⟩; obtain ⟨a1, g1, cap1, rfl, -, -⟩ := own_strs hown rfl; clear hown) | fail)
      refine bodyPost_ret (v := .tuple #[.string ⟨#[]⟩, .string ⟨#[]⟩, .string ⟨#[]⟩]) (by simp [results, Tryd.results50, go_sem]) rfl ⟨rfl, hB1⟩
    · have h3 : 3 < cs.length := by omega
      go_enter Tryd.func50, Tryd.ntmps50
      go_wp2_with (first | (go_at_call 86; refine HC.out.mono ?_; rintro e w1 ⟨v1, rfl, hown, hB1⟩; obtain ⟨a1, g1, cap1, rfl, -, -⟩ := own_strs hown rfl; clear hown) | fail)
      refine bodyPost_ret (v := .tuple #[.string ⟨#[]⟩, .string ⟨#[]⟩, .string ⟨#[]⟩]) (by simp [results, Tryd.results50, go_sem]) rfl ⟨rfl, hB1⟩
  · rw [hpl, if_neg hb]
    clear hpl
    match cs, hb with
    | [], hb => exact absurd (.inl (by simp)) hb
    | [x0], hb => exact absurd (.inl (by simp)) hb
    | [x0, x1], _ =>
      go_enter Tryd.func50, Tryd.ntmps50
      go_wp2_with (first | (go_at_call 86; refine HC.out.mono ?_; rintro e w1 ⟨v1, rfl, hown, hB1⟩; obtain ⟨a1, g1, cap1, rfl, ha1, hc⟩ := own_strs hown rfl; obtain rfl := ha1 (by simp); have c0 := hc 0 (by simp); have c1 := hc 1 (by simp); simp only [List.getElem_cons_zero, List.getElem_cons_succ] at c0 c1; clear hown hc) | fail)
      go_quiet (fail)
      go_wp2
      exact bodyPost_ret (v := .tuple #[.string x0, .string x1, .string ⟨#[]⟩]) (by simp [results, Tryd.results50, go_sem]) rfl ⟨rfl, below_drewN hB1⟩
    | [x0, x1, x2], _ =>
      go_enter Tryd.func50, Tryd.ntmps50
      go_wp2_with (first | (go_at_call 86; refine HC.out.mono ?_; rintro e w1 ⟨v1, rfl, hown, hB1⟩; obtain ⟨a1, g1, cap1, rfl, ha1, hc⟩ := own_strs hown rfl; obtain rfl := ha1 (by simp); have c0 := hc 0 (by simp); have c1 := hc 1 (by simp); have c2 := hc 2 (by simp); simp only [List.getElem_cons_zero, List.getElem_cons_succ] at c0 c1 c2; clear hown hc) | fail)
      go_quiet (fail)
      go_wp2
      exact bodyPost_ret (v := .tuple #[.string x0, .string x1, .string x2]) (by simp [results, Tryd.results50, go_sem]) rfl ⟨rfl, below_drewN hB1⟩
    | x0 :: x1 :: x2 :: x3 :: r, hb => exact absurd (.inr (by simp)) hb

theorem part_le (s : ByteArray) : (partL s).2.1.size ≤ s.size ∧ (partL s).2.2.size ≤ s.size := by
  have hx : ∀ x ∈ cut 32 s, x.size ≤ s.size := fun x hx => cut_le 32 s x hx
  have hg : ∀ i, ((cut 32 s).getD i ⟨#[]⟩).size ≤ s.size := fun i => by
    rw [List.getD_eq_getElem?_getD]
    cases h : (cut 32 s)[i]? with
    | none => exact Nat.zero_le _
    | some x => exact hx x (List.mem_of_getElem? h)
  unfold partL
  split
  · exact ⟨Nat.zero_le _, Nat.zero_le _⟩
  · exact ⟨hg 1, hg 2⟩

end Go.Proofs.YtgkfhcpegdlejaaDoor
