/-
  The walk of the model's TreeList.
-/
import Derived.Test.YtbcogekeoklddaaGreatDoorHPk05
namespace Go.Proofs.YtbcogekeoklddaaGreatDoor
open Go.RowKit Go.Lib

theorem row_lower {w : World} {base base' : Nat} {e : TypeId} {size : Nat} {v : Value} {n : Nat} {xs : List Value} (h : w.ownsRow base e size v n xs) (hb : base' ≤ base) : w.ownsRow base' e size v n xs := by
  obtain ⟨h1, h2 | ⟨g, cap, cur, e1, e2, e3⟩⟩ := h
  · exact ⟨h1, .inl h2⟩
  · exact ⟨h1, .inr ⟨g, cap, cur, e1, Nat.le_trans hb e2, e3⟩⟩

set_option maxHeartbeats 2000000 in
theorem sTreeList_any (w : World) (a : Option Addr) (g o cap : Nat) (es : List E) (s : ByteArray) (hl : es.length ≤ 1048576) (hcap : es.length ≤ cap) (hs : s.size ≤ 16777216) (hz : ∀ e ∈ es, e.p.size ≤ 16777216 ∧ e.x.size ≤ 16777216) (ha : 0 < es.length → a = some ⟨g, o, none⟩) (hE : Ents w g o es) :
    Calls Tryz.prog 20 #[.slice a es.length cap, .string s] w fun r w' => ∃ v, r = .returned (.tuple #[v, .int .i64 (listC es s)]) ∧ w'.ownsRow w.heap.size 9 1 v (listE es s).length ((listE es s).map Value.string) ∧ Below w.heap.size w w' := by
  have HE := hidE hE
  have HO := hidE (sTreeOk_any w a g o cap es (by omega) hcap hz ha hE)
  have HU : Hid (listC es s = if (treeE es && (isRoot s || pathB s)) = false then 1 else if (getE es s).2 = false then 2 else if (getE es s).1.d = false then 3 else 0) := show _ = _ from rfl
  have HL : Hid (listE es s = if listC es s = 0 then kidsE es s else []) := show _ = _ from rfl
  have HG := hidE (fun (W : World) (hW : Ents W g o es) => l2Get_any W a g o cap es s (by omega) ha hW)
  have HK := hidE (fun (W : World) (hW : Ents W g o es) => l2Kids_any W a g o cap es s hl hz ha hW)
  clear hE hz
  cases ht : treeE es with
  | false =>
    rw [ht] at HO HU
    go_enter Tryz.func20, Tryz.ntmps20
    go_wp2_with fail
    refine HO.out.mono ?_
    rintro e w1 ⟨rfl, hB1⟩
    have HB1 := hidE hB1
    clear hB1
    have HC : listC es s = 1 := by rw [HU.out]; rfl
    go_wp2
    exact bodyPost_ret (v := .tuple #[.slice (some ⟨w1.heap.size, 0, none⟩) 0 0, .int .i64 1]) (by simp [results, Tryz.results20, go_sem]) rfl ⟨_, by rw [HC], by rw [list_no HC (by decide)]; exact World.ownsRow_made w1 #[] 0 HB1.out.size (Nat.zero_le _) rfl, HB1.out.alloc HB1.out.size _⟩
  | true =>
    rw [ht] at HO HU
    cases hr : (s.toList == [47]) with
    | true =>
      have hr' : isRoot s = true := hr
      rw [hr'] at HU
      go_enter Tryz.func20, Tryz.ntmps20
      go_wp2_with fail
      refine HO.out.mono ?_
      rintro e w1 ⟨rfl, hB1⟩
      have HB1 := hidE hB1
      clear hB1
      obtain ⟨⟨p', d, x'⟩, b, hg⟩ : ∃ e b, getE es s = (e, b) := ⟨_, _, rfl⟩
      rw [hg] at HG HU
      clear hg
      go_wp2_with fail
      refine (HG.out _ (HE.out.below HB1.out)).mono ?_
      rintro e w2 ⟨rfl, hB2⟩
      have HB2 := hidE ((HB1.out.trans (hB2.mono HB1.out.size)).alloc (HB1.out.trans (hB2.mono HB1.out.size)).size (.cells #[.string p', .bool d, .string x'] 34))
      clear hB2 HB1 HG
      cases b with
      | false =>
        have HC : listC es s = 2 := by rw [HU.out]; simp [*]
        go_wp2
        exact bodyPost_ret (v := .tuple #[.slice (some ⟨(w2.alloc (.cells #[.string p', .bool d, .string x'] 34)).heap.size, 0, none⟩) 0 0, .int .i64 2]) (by simp [results, Tryz.results20, go_sem]) rfl ⟨_, by rw [HC], by rw [list_no HC (by decide)]; exact World.ownsRow_made (w2.alloc (.cells #[.string p', .bool d, .string x'] 34)) #[] 0 HB2.out.size (Nat.zero_le _) rfl, HB2.out.alloc HB2.out.size _⟩
      | true =>
        cases d with
        | false =>
          have HC : listC es s = 3 := by rw [HU.out]; simp [*]
          go_wp2
          exact bodyPost_ret (v := .tuple #[.slice (some ⟨(w2.alloc (.cells #[.string p', .bool false, .string x'] 34)).heap.size, 0, none⟩) 0 0, .int .i64 3]) (by simp [results, Tryz.results20, go_sem]) rfl ⟨_, by rw [HC], by rw [list_no HC (by decide)]; exact World.ownsRow_made (w2.alloc (.cells #[.string p', .bool false, .string x'] 34)) #[] 0 HB2.out.size (Nat.zero_le _) rfl, HB2.out.alloc HB2.out.size _⟩
        | true =>
          have HC : listC es s = 0 := by rw [HU.out]; simp [*]
          have HL2 : Hid (listE es s = kidsE es s) := by show _ = _; rw [HL.out, if_pos HC]
          go_wp2_with fail
          refine (HK.out _ (HE.out.below HB2.out)).mono ?_
          rintro e w3 ⟨v, rfl, hown, hB3⟩
          have HB3 := hidE (HB2.out.trans (hB3.mono HB2.out.size))
          have HO3 := hidE (row_lower hown HB2.out.size)
          clear hB3 hown
          go_wp2
          exact bodyPost_ret (v := .tuple #[v, .int .i64 0]) (by simp [results, Tryz.results20, go_sem]) rfl ⟨_, by rw [HC], by rw [HL2.out]; exact HO3.out, HB3.out⟩
    | false =>
      have hr' : isRoot s = false := hr
      rw [hr'] at HU
      have HP := hidE (fun (W : World) => sOk_any s (by omega) W)
      cases hp : pathB s with
      | false =>
        rw [hp] at HU HP
        have HC : listC es s = 1 := by rw [HU.out]; rfl
        go_enter Tryz.func20, Tryz.ntmps20
        go_wp2_with fail
        refine HO.out.mono ?_
        rintro e w1 ⟨rfl, hB1⟩
        have HB1 := hidE hB1
        clear hB1
        go_wp2_with fail
        refine (HP.out _).mono ?_
        rintro e w2 ⟨rfl, hB2⟩
        have HB2 := hidE (HB1.out.trans (hB2.mono HB1.out.size))
        clear hB2 HB1
        go_wp2
        exact bodyPost_ret (v := .tuple #[.slice (some ⟨w2.heap.size, 0, none⟩) 0 0, .int .i64 1]) (by simp [results, Tryz.results20, go_sem]) rfl ⟨_, by rw [HC], by rw [list_no HC (by decide)]; exact World.ownsRow_made w2 #[] 0 HB2.out.size (Nat.zero_le _) rfl, HB2.out.alloc HB2.out.size _⟩
      | true =>
        rw [hp] at HU HP
        go_enter Tryz.func20, Tryz.ntmps20
        go_wp2_with fail
        refine HO.out.mono ?_
        rintro e w1 ⟨rfl, hB1⟩
        have HB1 := hidE hB1
        clear hB1
        go_wp2_with fail
        refine (HP.out _).mono ?_
        rintro e w1' ⟨rfl, hB2⟩
        have HB1' := hidE (HB1.out.trans (hB2.mono HB1.out.size))
        clear hB2 HB1
        obtain ⟨⟨p', d, x'⟩, b, hg⟩ : ∃ e b, getE es s = (e, b) := ⟨_, _, rfl⟩
        rw [hg] at HG HU
        clear hg
        go_wp2_with fail
        refine (HG.out _ (HE.out.below HB1'.out)).mono ?_
        rintro e w2 ⟨rfl, hB2⟩
        have HB2 := hidE ((HB1'.out.trans (hB2.mono HB1'.out.size)).alloc (HB1'.out.trans (hB2.mono HB1'.out.size)).size (.cells #[.string p', .bool d, .string x'] 34))
        clear hB2 HB1' HG
        cases b with
        | false =>
          have HC : listC es s = 2 := by rw [HU.out]; simp [*]
          go_wp2
          exact bodyPost_ret (v := .tuple #[.slice (some ⟨(w2.alloc (.cells #[.string p', .bool d, .string x'] 34)).heap.size, 0, none⟩) 0 0, .int .i64 2]) (by simp [results, Tryz.results20, go_sem]) rfl ⟨_, by rw [HC], by rw [list_no HC (by decide)]; exact World.ownsRow_made (w2.alloc (.cells #[.string p', .bool d, .string x'] 34)) #[] 0 HB2.out.size (Nat.zero_le _) rfl, HB2.out.alloc HB2.out.size _⟩
        | true =>
          cases d with
          | false =>
            have HC : listC es s = 3 := by rw [HU.out]; simp [*]
            go_wp2
            exact bodyPost_ret (v := .tuple #[.slice (some ⟨(w2.alloc (.cells #[.string p', .bool false, .string x'] 34)).heap.size, 0, none⟩) 0 0, .int .i64 3]) (by simp [results, Tryz.results20, go_sem]) rfl ⟨_, by rw [HC], by rw [list_no HC (by decide)]; exact World.ownsRow_made (w2.alloc (.cells #[.string p', .bool false, .string x'] 34)) #[] 0 HB2.out.size (Nat.zero_le _) rfl, HB2.out.alloc HB2.out.size _⟩
          | true =>
            have HC : listC es s = 0 := by rw [HU.out]; simp [*]
            have HL2 : Hid (listE es s = kidsE es s) := by show _ = _; rw [HL.out, if_pos HC]
            go_wp2_with fail
            refine (HK.out _ (HE.out.below HB2.out)).mono ?_
            rintro e w3 ⟨v, rfl, hown, hB3⟩
            have HB3 := hidE (HB2.out.trans (hB3.mono HB2.out.size))
            have HO3 := hidE (row_lower hown HB2.out.size)
            clear hB3 hown
            go_wp2
            exact bodyPost_ret (v := .tuple #[v, .int .i64 0]) (by simp [results, Tryz.results20, go_sem]) rfl ⟨_, by rw [HC], by rw [HL2.out]; exact HO3.out, HB3.out⟩
end Go.Proofs.YtbcogekeoklddaaGreatDoor
