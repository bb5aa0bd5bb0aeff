/-
  The walks of the model's draws of what is done, whatever the code.
-/
import Derived.Test.YtbcogekeoklddaaDoorHDraw
import Derived.Test.YtbcogekeoklddaaDoorHPk05
import Derived.Test.YtbcogekeoklddaaDoorHDoneP
namespace Go.Proofs.YtbcogekeoklddaaDoor
open Go.RowKit Go.Lib

/-- A text that a move may go by way of in the laws. -/
def viaB (s : ByteArray) : Bool := match s.data.toList with
  | [a, c] => a == 47 && decide (107 ≤ c.toNat ∧ c.toNat ≤ 111)
  | _ => false
def okS (s : ByteArray) : Bool := decide (s.size ≤ 16) && !viaB s
theorem okS_size {s : ByteArray} (h : okS s = true) : s.size ≤ 16 := by
  unfold okS at h; rw [Bool.and_eq_true] at h; exact of_decide_eq_true h.1
theorem okS_none : okS ⟨#[]⟩ = true := by decide +kernel

/-- A list of texts that are so lies in the block g. -/
def LstP (P : ByteArray → Bool) (w : World) (g m : Nat) : Prop := ∀ i, i < m → ∃ s : ByteArray, w.cell? ⟨g, i, none⟩ = some (.string s) ∧ P s = true
theorem LstP.new (P : ByteArray → Bool) (w : World) (xs : List ByteArray) (t : TypeId) (h : xs.all P = true) : LstP P (w.alloc (.cells (xs.map Value.string).toArray t)) w.heap.size xs.length := by
  intro i hi
  refine ⟨xs[i], ?_, List.all_eq_true.1 h _ (List.getElem_mem _)⟩
  rw [World.cell?_alloc_new, List.getElem?_toArray, List.getElem?_map, List.getElem?_eq_getElem hi]; rfl
def LstI (P : Int → Bool) (w : World) (g m : Nat) : Prop := ∀ i, i < m → ∃ z : Int, w.cell? ⟨g, i, none⟩ = some (.int .i64 z) ∧ P z = true
theorem LstI.new (P : Int → Bool) (w : World) (xs : List Int) (t : TypeId) (h : xs.all P = true) : LstI P (w.alloc (.cells (xs.map (Value.int .i64)).toArray t)) w.heap.size xs.length := by
  intro i hi
  refine ⟨xs[i], ?_, List.all_eq_true.1 h _ (List.getElem_mem _)⟩
  rw [World.cell?_alloc_new, List.getElem?_toArray, List.getElem?_map, List.getElem?_eq_getElem hi]; rfl

set_option maxHeartbeats 400000 in
theorem of_P (P : ByteArray → Bool) (w : World) (r p g m cap : Nat) (hm : 1 ≤ m) (hm' : m ≤ 100) (hp : p ≤ 10000) (hg : g ≠ r) (hL : LstP P w g m) (h : Rd w r p) :
    Calls Tryd.prog 44 #[.pointer (some ⟨r, 0, none⟩), .slice (some ⟨g, 0, none⟩) m cap] w fun e w' => ∃ s : ByteArray, e = .returned (.string s) ∧ P s = true ∧ Rd w' r (p + 1) ∧ Kept r w w' := by
  have HL := hidR hL
  clear hL
  go_enter Tryd.func44, Tryd.ntmps44
  go_wp2_with fail
  refine (pick_any _ r p _ (by omega) (by omega) hp h).mono ?_
  rintro e w1 ⟨j, rfl, j0, j1, hR, hK⟩
  obtain ⟨i, rfl⟩ := Int.eq_ofNat_of_zero_le j0
  obtain ⟨s, hc0, hs⟩ := HL.out i (by omega)
  have hc := hK.cell hg hc0
  clear hc0 h
  have HR := hidR hR
  have HK := hidR hK
  have HS := hidR hs
  clear hR hK hs
  go_wp2
  go_ret
  exact ⟨s, rfl, HS.out, HR.out, HK.out⟩
set_option maxHeartbeats 400000 in
theorem num_P (P : Int → Bool) (w : World) (r p g m cap : Nat) (hm : 1 ≤ m) (hm' : m ≤ 100) (hp : p ≤ 10000) (hg : g ≠ r) (hL : LstI P w g m) (h : Rd w r p) :
    Calls Tryd.prog 39 #[.pointer (some ⟨r, 0, none⟩), .slice (some ⟨g, 0, none⟩) m cap] w fun e w' => ∃ z : Int, e = .returned (.int .i64 z) ∧ P z = true ∧ Rd w' r (p + 1) ∧ Kept r w w' := by
  have HL := hidR hL
  clear hL
  go_enter Tryd.func39, Tryd.ntmps39
  go_wp2_with fail
  refine (pick_any _ r p _ (by omega) (by omega) hp h).mono ?_
  rintro e w1 ⟨j, rfl, j0, j1, hR, hK⟩
  obtain ⟨i, rfl⟩ := Int.eq_ofNat_of_zero_le j0
  obtain ⟨s, hc0, hs⟩ := HL.out i (by omega)
  have hc := hK.cell hg hc0
  clear hc0 h
  have HR := hidR hR
  have HK := hidR hK
  have HS := hidR hs
  clear hR hK hs
  go_wp2
  go_ret
  exact ⟨s, rfl, HS.out, HR.out, HK.out⟩
abbrev ten : List ByteArray := [⟨#[47, 97]⟩, ⟨#[47, 98]⟩, ⟨#[47, 97, 47, 98]⟩, ⟨#[47, 97, 47, 99]⟩, ⟨#[47, 98, 47, 97]⟩, ⟨#[47, 97, 98]⟩, ⟨#[47, 97, 47, 98, 47, 99]⟩, ⟨#[47, 97, 47, 98, 47, 97]⟩, ⟨#[47, 98, 47, 98]⟩, ⟨#[47, 99]⟩]
set_option maxHeartbeats 400000 in
theorem l1Path_P (P : ByteArray → Bool) (hP : ten.all P = true) (w : World) (r p : Nat) (hp : p ≤ 10000) (h : Rd w r p) :
    Calls Tryd.prog 42 #[.pointer (some ⟨r, 0, none⟩)] w fun e w' => ∃ s : ByteArray, e = .returned (.string s) ∧ P s = true ∧ Rd w' r (p + 1) ∧ Kept r w w' := by
  have hr := h.lt
  have HP := hidR hP
  clear hP
  go_enter Tryd.func42, Tryd.ntmps42
  go_wp2_with fail
  have hb : Below w.heap.size w (w.alloc (.cells (ten.map Value.string).toArray 9)) := (Below.refl _ w).alloc (Nat.le_refl _) _
  refine (of_P P _ r p w.heap.size 10 10 (by omega) (by omega) hp (by omega) (LstP.new P w ten 9 HP.out) (h.below hb)).mono ?_
  rintro e w1 ⟨s, rfl, hs, hR, hK⟩
  have HR := hidR hR
  have HK := hidR ((Kept.of_below hb).trans hK)
  have HS := hidR hs
  clear hR hK hb h hs
  go_wp2
  go_ret
  exact ⟨s, rfl, HS.out, HR.out, HK.out⟩
set_option maxHeartbeats 400000 in
theorem l2Some_any (w : World) (r p : Nat) (hp : p ≤ 10000) (h : Rd w r p) :
    Calls Tryd.prog 43 #[.pointer (some ⟨r, 0, none⟩)] w fun e w' => ∃ s : ByteArray, e = .returned (.string s) ∧ okS s = true ∧ Rd w' r (p + 1) ∧ Kept r w w' := by
  have hr := h.lt
  go_enter Tryd.func43, Tryd.ntmps43
  go_wp2_with fail
  have hb : Below w.heap.size w (w.alloc (.cells ([⟨#[]⟩, ⟨#[120]⟩, ⟨#[121]⟩, ⟨#[49, 50]⟩, ⟨#[97, 98, 99]⟩, ⟨#[122, 57]⟩].map Value.string).toArray 9)) := (Below.refl _ w).alloc (Nat.le_refl _) _
  refine (of_P okS _ r p w.heap.size 6 6 (by omega) (by omega) hp (by omega) (LstP.new okS w [⟨#[]⟩, ⟨#[120]⟩, ⟨#[121]⟩, ⟨#[49, 50]⟩, ⟨#[97, 98, 99]⟩, ⟨#[122, 57]⟩] 9 (by decide +kernel)) (h.below hb)).mono ?_
  rintro e w1 ⟨s, rfl, hs, hR, hK⟩
  have HR := hidR hR
  have HK := hidR ((Kept.of_below hb).trans hK)
  have HS := hidR hs
  clear hR hK hb h hs
  go_wp2
  go_ret
  exact ⟨s, rfl, HS.out, HR.out, HK.out⟩

/-! ### What is kept while a box is turned -/
/-- Below n nothing but the block r has turned. -/
def Kn (n r : Nat) (w w' : World) : Prop := w'.os = w.os ∧ w'.tape = w.tape ∧ w'.output = w.output ∧ w.heap.size ≤ w'.heap.size ∧ ∀ b, b < n → b ≠ r → w'.heap[b]? = w.heap[b]?
theorem Kn.refl (n r : Nat) (w : World) : Kn n r w w := ⟨rfl, rfl, rfl, Nat.le_refl _, fun _ _ _ => rfl⟩
theorem Kn.step {n r : Nat} {a b c : World} (h : Kn n r a b) (hn : n ≤ a.heap.size) (k : Kept r b c) : Kn n r a c :=
  ⟨k.1.trans h.1, k.2.1.trans h.2.1, k.2.2.1.trans h.2.2.1, Nat.le_trans h.2.2.2.1 k.2.2.2.1, fun x hx hr => (k.2.2.2.2 x (Nat.lt_of_lt_of_le hx (Nat.le_trans hn h.2.2.2.1)) hr).trans (h.2.2.2.2 x hx hr)⟩
theorem Kn.other {n r q : Nat} {a b c : World} (h : Kn n r a b) (hn : n ≤ a.heap.size) (hq : n ≤ q) (k : Kept q b c) : Kn n r a c :=
  ⟨k.1.trans h.1, k.2.1.trans h.2.1, k.2.2.1.trans h.2.2.1, Nat.le_trans h.2.2.2.1 k.2.2.2.1, fun x hx hr => (k.2.2.2.2 x (Nat.lt_of_lt_of_le hx (Nat.le_trans hn h.2.2.2.1)) (by omega)).trans (h.2.2.2.2 x hx hr)⟩
theorem Kn.kept {r : Nat} {a b : World} (h : Kn a.heap.size r a b) : Kept r a b := h
theorem Kn.keptAt {n r : Nat} {a b : World} (h : Kn n r a b) (hn : a.heap.size = n) : Kept r a b := by subst hn; exact h
theorem Kept.setCell {r : Nat} (w : World) (o : Nat) (v : Value) : Kept r w (w.setCell ⟨r, o, none⟩ v) := by
  have := Kept.set (r := r) w o v 0
  exact this
theorem Kept.alloc {r : Nat} (w : World) (o : Obj) : Kept r w (w.alloc o) := Kept.of_below ((Below.refl _ w).alloc (Nat.le_refl _) _)
theorem Rd.keep {w w' : World} {r p b : Nat} (h : Rd w r p) (k : Kept b w w') (hb : r < b) : Rd w' r p := by
  have hr := h.lt
  obtain ⟨a, xb, xo, len, cap, c0, c1, f1, hl, ha, hz⟩ := h
  have hh := k.2.2.2.2 r hr (by omega)
  refine ⟨a, xb, xo, len, cap, k.cell (by omega) c0, k.cell (by omega) c1, (World.frozen?_of_block (w := w) (a := ⟨r, 1, none⟩) hh).trans f1, hl, ha, fun i hi => ?_⟩
  obtain ⟨z, cz, z0, z1⟩ := hz i hi
  have := (ha (by omega)).2
  exact ⟨z, k.cell (by omega) cz, z0, z1⟩
theorem Ents.kept {w w' : World} {g o b : Nat} {es : List E} (h : Ents w g o es) (k : Kept b w w') (hb : 0 < es.length → g ≠ b) : Ents w' g o es := fun i hi => by
  obtain ⟨c0, c1, c2⟩ := h i hi
  exact ⟨k.cell (hb (by omega)) c0, k.cell (hb (by omega)) c1, k.cell (hb (by omega)) c2⟩

/-- A box of four cells. -/
structure Bx (W : World) (b : Nat) (k : Int) (p t x : ByteArray) : Prop where
  c0 : W.cell? ⟨b, 0, none⟩ = some (.int .i64 k)
  c1 : W.cell? ⟨b, 1, none⟩ = some (.string p)
  c2 : W.cell? ⟨b, 2, none⟩ = some (.string t)
  c3 : W.cell? ⟨b, 3, none⟩ = some (.string x)
  f0 : W.frozen? ⟨b, 0, none⟩ = false
  f1 : W.frozen? ⟨b, 1, none⟩ = false
  f2 : W.frozen? ⟨b, 2, none⟩ = false
  f3 : W.frozen? ⟨b, 3, none⟩ = false
theorem Bx.kept {W W' : World} {b r : Nat} {k : Int} {p t x : ByteArray} (h : Bx W b k p t x) (hk : Kept r W W') (hb : b ≠ r) : Bx W' b k p t x := by
  have lt := cell_ltR h.c0
  have hh := hk.2.2.2.2 b lt hb
  exact ⟨hk.cell hb h.c0, hk.cell hb h.c1, hk.cell hb h.c2, hk.cell hb h.c3, (World.frozen?_of_block (a := ⟨b, 0, none⟩) hh).trans h.f0, (World.frozen?_of_block (a := ⟨b, 1, none⟩) hh).trans h.f1, (World.frozen?_of_block (a := ⟨b, 2, none⟩) hh).trans h.f2, (World.frozen?_of_block (a := ⟨b, 3, none⟩) hh).trans h.f3⟩
theorem Bx.new (w : World) (k : Int) (p t x : ByteArray) (T : TypeId) : Bx (w.alloc (.cells #[.int .i64 k, .string p, .string t, .string x] T)) w.heap.size k p t x :=
  ⟨by simp, by simp, by simp, by simp, by simp, by simp, by simp, by simp⟩
theorem frz (W : World) (b i j : Nat) (v : Value) : (W.setCell ⟨b, i, none⟩ v).frozen? ⟨b, j, none⟩ = W.frozen? ⟨b, j, none⟩ := World.frozen?_setCell ..
theorem Bx.set0 {W : World} {b : Nat} {k : Int} {p t x : ByteArray} (h : Bx W b k p t x) (z : Int) : Bx (W.setCell ⟨b, 0, none⟩ (.int .i64 z)) b z p t x :=
  ⟨cell_eq' _ h.c0, (cell_ne' _ _ _ _ _ (by decide)).trans h.c1, (cell_ne' _ _ _ _ _ (by decide)).trans h.c2, (cell_ne' _ _ _ _ _ (by decide)).trans h.c3, (frz ..).trans h.f0, (frz ..).trans h.f1, (frz ..).trans h.f2, (frz ..).trans h.f3⟩
theorem Bx.set1 {W : World} {b : Nat} {k : Int} {p t x : ByteArray} (h : Bx W b k p t x) (z : ByteArray) : Bx (W.setCell ⟨b, 1, none⟩ (.string z)) b k z t x :=
  ⟨(cell_ne' _ _ _ _ _ (by decide)).trans h.c0, cell_eq' _ h.c1, (cell_ne' _ _ _ _ _ (by decide)).trans h.c2, (cell_ne' _ _ _ _ _ (by decide)).trans h.c3, (frz ..).trans h.f0, (frz ..).trans h.f1, (frz ..).trans h.f2, (frz ..).trans h.f3⟩
theorem Bx.set2 {W : World} {b : Nat} {k : Int} {p t x : ByteArray} (h : Bx W b k p t x) (z : ByteArray) : Bx (W.setCell ⟨b, 2, none⟩ (.string z)) b k p z x :=
  ⟨(cell_ne' _ _ _ _ _ (by decide)).trans h.c0, (cell_ne' _ _ _ _ _ (by decide)).trans h.c1, cell_eq' _ h.c2, (cell_ne' _ _ _ _ _ (by decide)).trans h.c3, (frz ..).trans h.f0, (frz ..).trans h.f1, (frz ..).trans h.f2, (frz ..).trans h.f3⟩
theorem Bx.set3 {W : World} {b : Nat} {k : Int} {p t x : ByteArray} (h : Bx W b k p t x) (z : ByteArray) : Bx (W.setCell ⟨b, 3, none⟩ (.string z)) b k p t z :=
  ⟨(cell_ne' _ _ _ _ _ (by decide)).trans h.c0, (cell_ne' _ _ _ _ _ (by decide)).trans h.c1, (cell_ne' _ _ _ _ _ (by decide)).trans h.c2, cell_eq' _ h.c3, (frz ..).trans h.f0, (frz ..).trans h.f1, (frz ..).trans h.f2, (frz ..).trans h.f3⟩

/-- What comes behind a statement, as a word of its own. -/
theorem peel {P : Program} {A B : Code} {Q : Exit → Act → World → Prop} {K : Act → World → Prop} (h : ∀ a w, (Code.seq A B).wp P Q a w → K a w) : ∃ K' : Act → World → Prop, (∀ a w, B.wp P Q a w → K' a w) ∧ (∀ a w, A.wp P (Exit.then K' Q) a w → K a w) :=
  ⟨fun a w => B.wp P Q a w, fun _ _ h => h, fun a w hh => h a w (wp_seq hh)⟩
theorem Kn.bx {n r b : Nat} {w W : World} {k : Int} {p t x : ByteArray} (h : Kn n r w W) (hb : b < n) (hr : b ≠ r) (hx : Bx w b k p t x) : Bx W b k p t x := by
  have hh := h.2.2.2.2 b hb hr
  exact ⟨(World.cell?_of_block (w := w) (a := ⟨b, 0, none⟩) hh).trans hx.c0, (World.cell?_of_block (w := w) (a := ⟨b, 1, none⟩) hh).trans hx.c1, (World.cell?_of_block (w := w) (a := ⟨b, 2, none⟩) hh).trans hx.c2, (World.cell?_of_block (w := w) (a := ⟨b, 3, none⟩) hh).trans hx.c3,
    (World.frozen?_of_block (w := w) (a := ⟨b, 0, none⟩) hh).trans hx.f0, (World.frozen?_of_block (w := w) (a := ⟨b, 1, none⟩) hh).trans hx.f1, (World.frozen?_of_block (w := w) (a := ⟨b, 2, none⟩) hh).trans hx.f2, (World.frozen?_of_block (w := w) (a := ⟨b, 3, none⟩) hh).trans hx.f3⟩
/-- Four cells are stored at the end. -/
theorem fin4 {w W : World} {b r q : Nat} {k k' : Int} {p t x p' t' x' : ByteArray} {C : World → Prop} (h : Bx W b k p t x) (hK : Kept r w W) (hR : Rd W r q) (hb : w.heap.size ≤ b) (hrb : r < b)
    (H : ∀ Wf, Bx Wf b k' p' t' x' → Kept r w Wf → Rd Wf r q → C Wf) : C ((((W.setCell ⟨b, 0, none⟩ (.int .i64 k')).setCell ⟨b, 1, none⟩ (.string p')).setCell ⟨b, 2, none⟩ (.string t')).setCell ⟨b, 3, none⟩ (.string x')) := by
  have hs : Kept b W ((((W.setCell ⟨b, 0, none⟩ (.int .i64 k')).setCell ⟨b, 1, none⟩ (.string p')).setCell ⟨b, 2, none⟩ (.string t')).setCell ⟨b, 3, none⟩ (.string x')) :=
    (((Kept.setCell W 0 _).trans (Kept.setCell _ 1 _)).trans (Kept.setCell _ 2 _)).trans (Kept.setCell _ 3 _)
  refine H _ ((((h.set0 k').set1 p').set2 t').set3 x') ?_ (hR.keep hs hrb)
  exact (Kn.other (n := w.heap.size) (r := r) hK (Nat.le_refl _) hb hs)
end Go.Proofs.YtbcogekeoklddaaDoor
