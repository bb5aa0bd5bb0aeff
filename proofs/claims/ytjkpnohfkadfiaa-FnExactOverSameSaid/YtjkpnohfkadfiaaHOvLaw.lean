/-
  Lists of layers, as the laws turn them, weigh them and hold them against each other.
-/
import Derived.Lib.QuietBelow
import Derived.Test.YtjkpnohfkadfiaaHMkLawTop
namespace Go.Proofs.Ytjkpnohfkadfiaa.Ov
open Go.RowKit Go.Lib Go.Sort Go.Proofs.Ytjkpnohfkadfiaa.Mk

/-- Lists of marks lie there, one behind the other. -/
def LL (w : World) (g o : Nat) (ls : List (List Mk.E)) : Prop :=
  ∀ i (h : i < ls.length), ∃ a gg oo cap, w.cell? ⟨g, o + i, none⟩ = some (.slice a ls[i].length cap) ∧ (0 < ls[i].length → a = some ⟨gg, oo, none⟩) ∧ Mk.Ents w gg oo ls[i] ∧ ls[i].length ≤ cap
theorem LL.below {w w' : World} {g o : Nat} {ls : List (List Mk.E)} (h : LL w g o ls) (hb : Below w.heap.size w w') : LL w' g o ls := fun i hi => by
  obtain ⟨a, gg, oo, cap, c, ha, hE, hc⟩ := h i hi
  exact ⟨a, gg, oo, cap, (hb.cell (p := ⟨g, o + i, none⟩) (World.block_lt_of_cell? w ⟨g, o + i, none⟩ c)).trans c, ha, hE.below hb, hc⟩
/-- .. in blocks of their own. -/
def LO (w : World) (g : Nat) (ls : List (List Mk.E)) : Prop :=
  ∀ i (h : i < ls.length), ∃ gg, w.cell? ⟨g, i, none⟩ = some (.slice (some ⟨gg, 0, none⟩) ls[i].length ls[i].length) ∧ g < gg ∧ Mk.Ents w gg 0 ls[i]
theorem LO.below {w w' : World} {g : Nat} {ls : List (List Mk.E)} (h : LO w g ls) (hb : Below w.heap.size w w') : LO w' g ls := fun i hi => by
  obtain ⟨gg, c, hg, hE⟩ := h i hi
  exact ⟨gg, (hb.cell (p := ⟨g, i, none⟩) (World.block_lt_of_cell? w ⟨g, i, none⟩ c)).trans c, hg, hE.below hb⟩
theorem LO.ll {w : World} {g : Nat} {ls : List (List Mk.E)} (h : LO w g ls) : LL w g 0 ls := fun i hi => by
  obtain ⟨gg, c, hg, hE⟩ := h i hi
  exact ⟨_, gg, 0, _, by rw [Nat.zero_add]; exact c, fun _ => rfl, hE, Nat.le_refl _⟩
theorem entsOther {w : World} {g b j o : Nat} {es : List Mk.E} (h : Mk.Ents w g o es) (hb : g ≠ b) (v : Value) : Mk.Ents (w.setCell ⟨b, j, none⟩ v) g o es := fun i hi => by
  obtain ⟨c0, c1, c2⟩ := h i hi
  have ne : ∀ k, (w.setCell ⟨b, j, none⟩ v).cell? ⟨g, k, none⟩ = w.cell? ⟨g, k, none⟩ := fun k => World.cell?_setCell_other _ _ _ _ (fun q => hb (congrArg Addr.block q).symm)
  exact ⟨(ne _).trans c0, (ne _).trans c1, (ne _).trans c2⟩
theorem LO.put {w : World} {g k gg : Nat} {ls : List (List Mk.E)} (hk : k < ls.length) (h : LO w g (ls.take k)) {v0 : Value} (e0 : w.cell? ⟨g, k, none⟩ = some v0) (hg : g < gg) (hE : Mk.Ents w gg 0 ls[k]) :
    LO (w.setCell ⟨g, k, none⟩ (.slice (some ⟨gg, 0, none⟩) ls[k].length ls[k].length)) g (ls.take (k + 1)) := by
  intro i hi
  rw [List.length_take] at hi
  rw [List.getElem_take]
  by_cases e : i = k
  · subst e
    exact ⟨gg, Mk.cell_eq _ e0, hg, entsOther hE (by omega) _⟩
  · have hlt : i < k := by omega
    obtain ⟨g2, c, h2, hE2⟩ := h i (by rw [List.length_take]; omega)
    rw [List.getElem_take] at c hE2
    exact ⟨g2, (Mk.cell_ne _ _ _ _ _ (by omega)).trans c, h2, entsOther hE2 (by omega) _⟩

set_option maxHeartbeats 800000 in
set_option maxRecDepth 100000 in
theorem szSS_any (w : World) (a : Option Addr) (g o cap : Nat) (ls : List (List Mk.E)) (left : Int) (h0 : 0 ≤ left) (hl : left ≤ 1048576) (hn : ls.length ≤ maxLen) (hz : ∀ l ∈ ls, l.length ≤ maxLen ∧ ∀ e ∈ l, e.p.size ≤ maxLen ∧ e.x.size ≤ maxLen) (ha : 0 < ls.length → a = some ⟨g, o, none⟩) (hE : LL w g o ls) :
    Calls Try.prog 22 #[.slice a ls.length cap, .int .i64 left] w fun e w' => ∃ r : Int, e = .returned (.int .i64 r) ∧ r ≤ left ∧ -1 ≤ r ∧ (0 ≤ r → (ls.length : Int) ≤ left ∧ ∀ l ∈ ls, (l.length : Int) ≤ left ∧ ∀ e ∈ l, (e.p.size : Int) ≤ left ∧ (e.x.size : Int) ≤ left) ∧ Below w.heap.size w w' := by
  have HE := hidE hE
  have HZ := hidE hz
  clear hE hz
  unfold maxLen at hn
  by_cases hlen : (ls.length : Int) ≤ left
  · go_enter Try.func22, Try.ntmps22
    go_wp2
    go_loopw [1, 5] (fun lv iv wl => ∃ (k : Nat) (r : Int), k ≤ ls.length ∧ iv = .int .i64 k ∧ lv = .int .i64 r ∧ 0 ≤ r ∧ r ≤ left ∧ Hid (Below w.heap.size w wl) ∧ Hid (∀ j (h : j < ls.length), j < k → (ls[j].length : Int) ≤ left ∧ ∀ e ∈ ls[j], (e.p.size : Int) ≤ left ∧ (e.x.size : Int) ≤ left)) (fun _ iv _ => ls.length - (RowKit.intOf iv).toNat)
    case atStart => exact ⟨0, left - ls.length, Nat.zero_le _, rfl, rfl, by omega, by omega, Below.refl _ _, fun j _ h => by omega⟩
    case round =>
      obtain ⟨k, r, hk, rfl, rfl, r0, r1, HB, HA⟩ := hrel
      by_cases hlt : k < ls.length
      · obtain rfl := ha (by omega)
        obtain ⟨a2, g2, o2, cap2, c0, ha2, hE2, hc2⟩ := (HE.out.below HB.out) k hlt
        obtain ⟨z0, z1⟩ := HZ.out ls[k] (List.getElem_mem _)
        go_wp2_with fail
        refine (Mk.szEntS_any _ a2 g2 o2 cap2 ls[k] r r0 (by omega) z0 z1 ha2 hE2).mono ?_
        rintro e w2 ⟨r2, rfl, q0, q1, q2, hB2⟩
        have HB2 := hidE (HB.out.trans (hB2.mono HB.out.size))
        have HQ := hidE q2
        clear hB2 q2 HB c0 hE2 ha2
        by_cases hr2 : 0 ≤ r2
        · go_wp2
          go_roundw
          case rel => exact ⟨k + 1, r2, by omega, by go_num, rfl, hr2, by omega, HB2, fun j hj hjk => by
            by_cases e : j = k
            · subst e; have := HQ.out hr2; exact ⟨by omega, fun e he => by have := this.2 e he; omega⟩
            · exact HA.out j hj (by omega)⟩
          case measure => simp [RowKit.intOf]; omega
        · go_wp2
          go_ret
          exact ⟨_, rfl, by omega, by omega, fun h => by omega, HB2.out⟩
      · go_wp2
        go_ret
        refine ⟨_, rfl, r1, by omega, fun _ => ⟨hlen, fun l hl => ?_⟩, HB.out⟩
        obtain ⟨j, hj, ej⟩ := List.getElem_of_mem hl
        rw [← ej]
        exact HA.out j hj (by omega)
  · go_enter Try.func22, Try.ntmps22
    go_wp2
    go_ret
    exact ⟨_, rfl, by omega, by omega, fun h => by omega, Below.refl _ _⟩

theorem Try.infoL : (Try.prog.info? 31).map (fun i => (i.zero, i.size, i.bytes)) = some (some (.slice none 0 0), 1, 24) := by kernel_rfl

set_option maxHeartbeats 800000 in
set_option maxRecDepth 100000 in
theorem toSS_any (w : World) (a : Option Addr) (g o cap : Nat) (ls : List (List Mk.E)) (hn : ls.length ≤ 1048576) (hn2 : ∀ l ∈ ls, l.length ≤ 1048576) (ha : 0 < ls.length → a = some ⟨g, o, none⟩) (hE : LL w g o ls) :
    Calls Try.prog 27 #[.slice a ls.length cap] w fun e w' => e = .returned (.slice (some ⟨w.heap.size, 0, none⟩) ls.length ls.length) ∧ LO w' w.heap.size ls ∧ Below w.heap.size w w' := by
  have HE := hidE hE
  have HN := hidE hn2
  clear hE hn2
  obtain ⟨i0, hi, hz0, hz1, hz2⟩ := info_parts Try.infoL
  obtain ⟨M, hM⟩ : ∃ M, M = madeCells (Value.slice none 0 0).cells (((ls.length : Nat) : Int).toNat * i0.size) := ⟨_, rfl⟩
  have hMs : M.size = ls.length := by rw [hM, size_madeCells, hz1]; simp
  have hmk : ∀ W : World, (Instr.makeSlice 30 (.int .i64 (ls.length : Int)) (.int .i64 (ls.length : Int))).run Try.prog W = .ok (.slice (some ⟨W.heap.size, 0, none⟩) ls.length ls.length) (W.alloc (.cells M 31)) := fun W => by
    have h := run_make (P := Try.prog) W 30 31 i0 (.slice none 0 0) Try.underlying30 hi hz0 .i64 .i64 (ls.length : Int) (ls.length : Int) (by omega) (by omega) (by rw [hz2]; omega) (by omega)
    rw [← hM] at h
    simpa using h
  have HR : Hid (Mk.Room (w.alloc (.cells M 31)) w.heap.size ls.length) := fun i hi => ⟨⟨M[i]'(by omega), by rw [World.cell?_alloc_new, Array.getElem?_eq_getElem (by omega)]⟩, by simp⟩
  clear hM hi hz0 hz1 hz2
  have HB0 := hidE ((Below.refl w.heap.size w).alloc (Nat.le_refl _) (.cells M 31))
  have HS0 : Hid (w.heap.size < (w.alloc (.cells M 31)).heap.size) := by show _ < _; simp
  go_enter Try.func27, Try.ntmps27
  go_wp2
  go_loopw [4] (fun iv wl => ∃ k : Nat, k ≤ ls.length ∧ iv = .int .i64 k ∧ Hid (Below w.heap.size w wl) ∧ Hid (w.heap.size < wl.heap.size) ∧ Hid (Mk.Room wl w.heap.size ls.length) ∧ Hid (LO wl w.heap.size (ls.take k))) (fun iv _ => ls.length - (RowKit.intOf iv).toNat)
  case atStart => exact ⟨0, Nat.zero_le _, rfl, HB0, HS0, HR, fun i hi => by simp at hi⟩
  case round =>
    clear HB0 HR hmk HS0
    obtain ⟨k, hk, rfl, HB, HS, HR, HT⟩ := hrel
    by_cases hlt : k < ls.length
    · obtain rfl := ha (by omega)
      obtain ⟨a2, g2, o2, cap2, c0, ha2, hE2, hc2⟩ := (HE.out.below HB.out) k hlt
      go_wp2_with fail
      refine (Mk.toEntS_any _ a2 g2 o2 cap2 ls[k] (HN.out _ (List.getElem_mem _)) ha2 hE2).mono ?_
      rintro e w2 ⟨rfl, hX2, _, hB2⟩
      have HB2 := hidE (HB.out.trans (hB2.mono HB.out.size))
      have HR2 := hidE (HR.out.below hB2)
      have HT2 := hidE (HT.out.below hB2)
      have HX2 := hidE hX2
      have HS2 : Hid (w.heap.size < w2.heap.size) := Nat.lt_of_lt_of_le HS.out hB2.size
      clear hB2 HB HR HT c0 hE2 ha2 hX2
      obtain ⟨⟨v0, e0⟩, f0⟩ := HR2.out k hlt
      go_wp2
      go_roundw
      case rel => exact ⟨k + 1, by omega, by go_num, HB2.out.setCell (p := ⟨w.heap.size, _, none⟩) (Nat.le_refl _) _, by show _ < _; rw [World.size_setCell]; exact HS2.out, HR2.out.set _ _ _, HT2.out.put hlt e0 HS.out HX2.out⟩
      case measure => simp [RowKit.intOf]; omega
    · go_wp2
      go_ret
      have := HT.out
      rw [List.take_of_length_le (by omega)] at this
      exact ⟨rfl, this, HB.out⟩
end Go.Proofs.Ytjkpnohfkadfiaa.Ov
