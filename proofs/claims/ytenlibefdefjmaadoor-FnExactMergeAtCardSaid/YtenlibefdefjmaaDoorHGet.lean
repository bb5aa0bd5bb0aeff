/-
  The walks of what the model tells of a path of a tree.
-/
import Derived.Laws.ResultCell
import Derived.Test.YtenlibefdefjmaaDoorHTreeOk
namespace Go.Proofs.YtenlibefdefjmaaDoor
open Go.RowKit Go.Lib

theorem bcellE {W w1 : World} (hb : Below W.heap.size W w1) : (∀ b o, b < W.heap.size → w1.cell? ⟨b, o, none⟩ = W.cell? ⟨b, o, none⟩) ∧ (∀ b o, b < W.heap.size → w1.frozen? ⟨b, o, none⟩ = W.frozen? ⟨b, o, none⟩) :=
  ⟨fun b o h => hb.cell (p := ⟨b, o, none⟩) h, fun b o h => hb.frozen (p := ⟨b, o, none⟩) h⟩

set_option maxHeartbeats 400000 in
theorem l2Get_any (w : World) (a : Option Addr) (g o cap : Nat) (es : List E) (s : ByteArray) (hl : es.length ≤ 16777216) (ha : 0 < es.length → a = some ⟨g, o, none⟩) (hE : Ents w g o es) :
    Calls Tryd.prog 18 #[.slice a es.length cap, .string s] w fun r w' => r = .returned (.tuple #[encE (getE es s).1, .bool (getE es s).2]) ∧ Below w.heap.size w w' := by
  have hb : Below w.heap.size w (w.alloc (.cells #[.string ⟨#[]⟩, .bool false, .string ⟨#[]⟩] 25)) := (Below.refl _ w).alloc (Nat.le_refl _) _
  have HE := hidE (hE.below hb)
  have HF := hidE (fun (W : World) (hW : Ents W g o es) => l2Find_any W a g o cap es s hl ha hW)
  clear hE hb
  cases hr : (s.toList == [47]) with
  | true =>
    rw [getE_root hr]
    go_enter Tryd.func18, Tryd.ntmps18
    go_wp2
    exact bodyPost_ret (v := .tuple #[encE rootE, .bool true]) (by simp [results, Tryd.results18, go_sem, rootE]) rfl ⟨rfl, (Below.refl _ w).alloc (Nat.le_refl _) _⟩
  | false =>
    rcases findE_is es s with hf | ⟨j, hj, hf, _⟩
    · rw [getE_no hr hf]
      rw [hf] at HF
      go_enter Tryd.func18, Tryd.ntmps18
      go_wp2_with (go_at_call 25; refine (HF.out _ HE.out).mono ?_; rintro e w' ⟨rfl, rfl⟩)
      exact bodyPost_ret (v := .tuple #[encE noneE, .bool false]) (by simp [results, Tryd.results18, go_sem, noneE]) rfl ⟨rfl, (Below.refl _ w).alloc (Nat.le_refl _) _⟩
    · rw [getE_at hr hj hf]
      rw [hf] at HF
      obtain rfl := ha (by omega)
      obtain ⟨c0, c1, c2⟩ := HE.out j hj
      go_enter Tryd.func18, Tryd.ntmps18
      go_wp2_with (go_at_call 25; refine (HF.out _ HE.out).mono ?_; rintro e w' ⟨rfl, rfl⟩)
      exact bodyPost_ret (v := .tuple #[encE es[j], .bool true]) (by simp [results, Tryd.results18, go_sem]) rfl ⟨rfl, (Below.refl _ w).alloc (Nat.le_refl _) _⟩

end Go.Proofs.YtenlibefdefjmaaDoor
