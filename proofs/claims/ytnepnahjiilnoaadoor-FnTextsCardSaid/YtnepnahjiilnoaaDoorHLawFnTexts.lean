/-
  The walk of the law FnTexts, out of the contracts.
-/
import Derived.Test.YtnepnahjiilnoaaDoorHPk05
import Derived.Test.YtnepnahjiilnoaaDoorHTxDraw
import Derived.Test.YtnepnahjiilnoaaDoorHTxDrawM
import Derived.Test.YtnepnahjiilnoaaDoorHLawMarkText
namespace Go.Proofs.YtnepnahjiilnoaaDoor
open Go.RowKit Go.Lib

theorem B3U {a b c : World} (h : Below a.heap.size a b) (k : Below b.heap.size b c) : Below a.heap.size a c := h.trans (k.mono h.size)
theorem B3A {a b : World} (h : Below a.heap.size a b) (o : Obj) : Below a.heap.size a (b.alloc o) := h.alloc h.size o

set_option maxHeartbeats 1600000 in
set_option maxRecDepth 100000 in
theorem walk_fnTexts (a : Option Addr) (len cap : Nat) (zs : List Int) (w : World) (hWo : Words w) (hw : IsRow .u8 w a len cap zs) :
    Calls Tryd.prog 3 #[.slice a len cap] w fun r w' => r = .returned (.bool true) ∧ Below w.heap.size w w' := by
  have HC := hidR hw.cod
  have HW := hidR hWo
  clear hw hWo
  by_cases hl : len ≤ 1048576
  · go_enter Tryd.func3, Tryd.ntmps3
    go_wp2_with fail
    refine (DrawEntText_any _ a len cap hl HC.out).mono ?_
    rintro r w1 ⟨⟨p, d, x⟩, rfl, ⟨hp, hx⟩, hB1⟩
    have hp' : p.size ≤ 16 := hp
    have hx' : x.size ≤ 16 := hx
    have HB1 := hidR (B3A hB1 (.cells #[.string p, .bool d, .string x] 24))
    clear hp hx hB1
    go_wp2_with fail
    refine (Mk.DrawMarkText_any _ a len cap hl (HC.out.below HB1.out)).mono ?_
    rintro r w2 ⟨⟨mp, md, mx⟩, rfl, ⟨hmp, hmx⟩, hB2⟩
    have hmp' : mp.size ≤ 16 := hmp
    have hmx' : mx.size ≤ 16 := hmx
    have HKe2 := hidR (B3A hB2 (.cells #[.string mp, .int .i64 md, .string mx] 27))
    have HB2 := hidR (B3U HB1.out HKe2.out)
    obtain ⟨c0, c1, c2⟩ := box3t HKe2.out
    clear hmp hmx hB2
    go_wp2_with fail
    refine (iEntText_any ⟨p, d, x⟩ _ (HW.out.below HB2.out) (by show p.size ≤ _; omega) (by show x.size ≤ _; omega)).mono ?_
    rintro r w3 ⟨rfl, hB3⟩
    have HKe3 := hidR (B3U HKe2.out hB3)
    have HKm3 := hidR hB3
    have HB3 := hidR (B3U HB2.out hB3)
    clear c0 c1 c2 hB3
    obtain ⟨d0, d1, d2⟩ := box3t HKm3.out
    go_wp2_with fail
    refine (Mk.iMarkText_any ⟨mp, md, mx⟩ _ (HW.out.below HB3.out) (by show mp.size ≤ _; omega) (by show mx.size ≤ _; omega)).mono ?_
    rintro r w4 ⟨rfl, hB4⟩
    have HKe4 := hidR (B3U HKe3.out hB4)
    have HKm4 := hidR (B3U HKm3.out hB4)
    have HB4 := hidR (B3U HB3.out hB4)
    clear d0 d1 d2 hB4
    obtain ⟨c0, c1, c2⟩ := box3t HKe4.out
    go_wp2_with fail
    refine (sEntText_any ⟨p, d, x⟩ _ (by show p.size ≤ _; omega) (by show x.size ≤ _; omega)).mono ?_
    rintro r w5 ⟨rfl, hB5⟩
    have HKe5 := hidR (B3U HKe4.out hB5)
    have HKm5 := hidR (B3U HKm4.out hB5)
    have HB5 := hidR (B3U HB4.out hB5)
    clear c0 c1 c2 hB5
    obtain ⟨d0, d1, d2⟩ := box3t HKm5.out
    go_wp2_with fail
    refine (Mk.sMarkText_any ⟨mp, md, mx⟩ _ (by show mp.size ≤ _; omega) (by show mx.size ≤ _; omega)).mono ?_
    rintro r w6 ⟨rfl, hB6⟩
    have HKe6 := hidR (B3U HKe5.out hB6)
    have HB6 := hidR (B3U HB5.out hB6)
    clear d0 d1 d2 hB6
    have HEe := hidR (B3A (B3A HKe6.out (.cells #[.string p, .int .i64 1, .string x] 27)) (.cells #[.string p, .int .i64 2, .string ⟨#[]⟩] 27))
    have HEw := hidR (B3A (B3A HB6.out (.cells #[.string p, .int .i64 1, .string x] 27)) (.cells #[.string p, .int .i64 2, .string ⟨#[]⟩] 27))
    have HE1 := hidR (B3A HKe6.out (.cells #[.string p, .int .i64 1, .string x] 27))
    obtain ⟨c0, c1, c2⟩ := box3t HKe6.out
    obtain ⟨f0, f1, f2⟩ := box3t HE1.out
    obtain ⟨g0, g1, g2⟩ := box3t HEe.out
    have he2 := ent_two ⟨p, d, x⟩
    have hm2 := mark_two ⟨mp, md, mx⟩
    have HTd := hidR (mark_dir (e := ⟨p, d, x⟩))
    have HTf := hidR (mark_file (e := ⟨p, d, x⟩))
    have HTe := hidR (entT_dir (e := ⟨p, d, x⟩))
    have HTh := hidR (file_head (e := ⟨p, d, x⟩))
    obtain ⟨S, hS⟩ : ∃ S, entT ⟨p, d, x⟩ = S := ⟨_, rfl⟩
    obtain ⟨U, hU⟩ : ∃ U, Mk.markT ⟨mp, md, mx⟩ = U := ⟨_, rfl⟩
    rw [hS] at he2 HTd HTf HTe HTh
    rw [hU] at hm2
    rw [hS, hU]
    clear hS hU
    have he3 : ¬ ((S.size : Int) < 2) := by omega
    have hm3 : ¬ ((U.size : Int) < 2) := by omega
    cases d with
    | true =>
      have HT := hidR (HTe.out rfl)
      have HMd := hidR (HTd.out rfl)
      dsimp only at HT HMd
      clear HTd HTf HTe HTh
      go_wp2_with fail
      refine (Mk.iMarkText_any ⟨p, 2, ⟨#[]⟩⟩ _ (HW.out.below HEw.out) (by show p.size ≤ _; omega) (Nat.zero_le _)).mono ?_
      rintro r w7 ⟨rfl, hB7⟩
      rw [HMd.out]
      clear c0 c1 c2 f0 f1 f2 g0 g1 g2
      obtain ⟨j0, j1, j2⟩ := box3t (B3U HEe.out hB7)
      have k1 : (S.toList == ((⟨#[100, 32]⟩ : ByteArray) ++ p).toList) = true := by rw [HT.out]; simp
      have k2 : S.toList = ((⟨#[100, 32]⟩ : ByteArray) ++ p).toList := by rw [HT.out]
      have HBf := hidR (B3U HEw.out hB7)
      clear hB7
      go_wp2
      go_ret
      exact ⟨rfl, HBf.out⟩
    | false =>
      have HT := hidR (HTh.out rfl)
      have HMf := hidR (HTf.out rfl)
      dsimp only at HT HMf
      clear HTd HTf HTe HTh
      go_wp2_with fail
      refine (Mk.iMarkText_any ⟨p, 1, x⟩ _ (HW.out.below HEw.out) (by show p.size ≤ _; omega) (by show x.size ≤ _; omega)).mono ?_
      rintro r w7 ⟨rfl, hB7⟩
      rw [HMf.out]
      clear c0 c1 c2 f0 f1 f2 g0 g1 g2
      have hx2 := HT.out
      have HBf := hidR (B3U HEw.out hB7)
      have hb2 : (2 : Int) ≤ (S.size : Int) := by omega
      clear hB7 HT
      go_wp2
      go_ret
      exact ⟨rfl, HBf.out⟩
  · go_enter Tryd.func3, Tryd.ntmps3
    go_wp2
    go_ret
    exact ⟨rfl, Below.refl _ _⟩
end Go.Proofs.YtnepnahjiilnoaaDoor
