import Derived.Test.YtoaipphccjkphaaDoorHTreeSameP
namespace Go.Proofs.YtoaipphccjkphaaDoor
open Go.RowKit Go.Lib
attribute [local go_sem] eq_ent guard_ent
set_option maxHeartbeats 800000 in
set_option maxRecDepth 100000 in
theorem equal_any (w : World) (a : Option Addr) (g o cap : Nat) (es : List E) (a' : Option Addr) (g' o' cap' : Nat) (fs : List E) (hl : es.length ≤ 16777216) (_hl' : fs.length ≤ 16777216) (ha : 0 < es.length → a = some ⟨g, o, none⟩) (ha' : 0 < fs.length → a' = some ⟨g', o', none⟩) (hE : Ents w g o es) (hF : Ents w g' o' fs) :
  Calls Tryd.prog 39 #[.slice a es.length cap, .slice a' fs.length cap'] w fun e w' => e = .returned (.bool (sameT es fs)) ∧ Below w.heap.size w w' := by
 have HE := hidE hE; have HF := hidE hF; clear hE hF; by_cases hn : es.length = fs.length
 ·
  have hb : ((es.length : Int) != (fs.length : Int)) = false := by rw [hn]; simp
  have hle : fs.length ≤ es.length := by omega
  have hge : es.length ≤ fs.length := by omega
  clear hn; go_enter Tryd.func39, Tryd.ntmps39
  go_wp2
  go_loopw [13] (fun iv wl => ∃ k : Nat, k ≤ es.length ∧ iv = .int .i64 k ∧ Hid (Below w.heap.size w wl) ∧ Hid (sameT es fs = sameT (es.drop k) (fs.drop k))) (fun iv _ => es.length - (RowKit.intOf iv).toNat)
  case atStart => exact ⟨0, Nat.zero_le _, rfl, Below.refl _ _, rfl⟩
  case round =>
   obtain ⟨k, hk, rfl, HB, HS⟩ := hrel; by_cases hlt : k < es.length
   ·
    have hlt' : k < fs.length := by omega
    obtain rfl := ha (by omega); obtain rfl := ha' (by omega); obtain ⟨c0, c1, c2⟩ := (HE.out.below HB.out) k hlt; obtain ⟨c0', c1', c2'⟩ := (HF.out.below HB.out) k hlt'; have HD := hidE (same_drop es fs k hlt hlt'); by_cases h1 : es[k].p.toList = fs[k].p.toList
    ·
     by_cases h2 : es[k].d = fs[k].d
     ·
      by_cases h3 : es[k].x.toList = fs[k].x.toList
      ·
       have HN : Hid (sameT es fs = sameT (es.drop (k + 1)) (fs.drop (k + 1))) := by show _ = _; rw [HS.out, HD.out]; unfold sameT1; simp [*]
       go_wp2
       go_quiet (fail)
       go_wp2
       go_roundw
       case rel => exact ⟨k + 1, by omega, by go_num, below_draws' HB.out _, HN⟩
       case measure => simp [RowKit.intOf]; omega
      ·
       have HN : Hid (sameT es fs = false) := by show _ = _; rw [HS.out, HD.out]; unfold sameT1; simp [*]
       go_wp2
       go_quiet (fail)
       go_wp2
       go_ret
       exact ⟨ret_bE HN.out.symm, below_draws' HB.out _⟩
     ·
      have HN : Hid (sameT es fs = false) := by show _ = _; rw [HS.out, HD.out]; unfold sameT1; simp [*]
      go_wp2
      go_quiet (fail)
      go_wp2
      go_ret
      exact ⟨ret_bE HN.out.symm, below_draws' HB.out _⟩
    ·
     have HN : Hid (sameT es fs = false) := by show _ = _; rw [HS.out, HD.out]; unfold sameT1; simp [*]
     go_wp2
     go_quiet (fail)
     go_wp2
     go_ret
     exact ⟨ret_bE HN.out.symm, below_draws' HB.out _⟩
   ·
    go_wp2
    go_ret
    exact ⟨ret_bE (by rw [HS.out, List.drop_of_length_le (by omega), List.drop_of_length_le (by omega)]; rfl), HB.out⟩
 ·
  have hn2 : ((es.length : Int) == (fs.length : Int)) = false := by rw [beq_eq_false_iff_ne]; omega
  go_enter Tryd.func39, Tryd.ntmps39
  go_wp2
  go_ret
  exact ⟨ret_bE (same_len es fs hn).symm, Below.refl _ _⟩
theorem iTreeSame_any (w : World) (a : Option Addr) (g o cap : Nat) (es : List E) (a' : Option Addr) (g' o' cap' : Nat) (fs : List E) (hl : es.length ≤ 16777216) (hl' : fs.length ≤ 16777216) (ha : 0 < es.length → a = some ⟨g, o, none⟩) (ha' : 0 < fs.length → a' = some ⟨g', o', none⟩) (hE : Ents w g o es) (hF : Ents w g' o' fs) :
  Calls Tryd.prog 15 #[.slice a es.length cap, .slice a' fs.length cap'] w fun e w' => e = .returned (.bool (sameT es fs)) ∧ Below w.heap.size w w' := by
 have HQ := hidE (equal_any w a g o cap es a' g' o' cap' fs hl hl' ha ha' hE hF); clear hE hF ha ha'; go_enter Tryd.func15, Tryd.ntmps15
 go_wp2_with (go_at_call 39; refine HQ.out.mono ?_; rintro e w1 ⟨rfl, hB1⟩)
 go_ret
 exact ⟨rfl, hB1⟩
end Go.Proofs.YtoaipphccjkphaaDoor
