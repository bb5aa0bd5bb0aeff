import Derived.Shelf.SlSortCmp.WholeK
import Derived.Test.YteppodogghjfhaaGreatDoorHSortLaid
import Derived.Test.YteppodogghjfhaaGreatDoorHPk34
namespace Go.Proofs.YteppodogghjfhaaGreatDoor
open Go.RowKit Go.Lib Go.Sort
theorem lt_is : Go.Proofs.ltOf cmpE = ltE := by
 funext x y
 exact cmpE_lt x y
theorem sortFunc_any (w : World) (g cap : Nat) (es : List E) (hE : Ents w g 0 es) (hR : Room w g (es.length * 3)) (hg : g < w.heap.size) (hn : es.length ≤ 1000) (hd : es.Pairwise (fun a b => a.p ≠ b.p)) :
  Calls Tryz.prog 104 #[.slice (some ⟨g, 0, none⟩) es.length cap, .func (.func 105) #[] #[]] w fun e w' => e = .returned (.tuple #[]) ∧ ∃ fs : List E, fs.length = es.length ∧ fs.Perm es ∧ Rise fs ∧ Ents w' g 0 fs ∧ Room w' g (fs.length * 3) ∧ But g w w' := by
 have eg : ∀ args w, (callFunc 105 args).run Tryz.prog w = .ok (.enter 105 args) w := enters_of Tryz.func105 (by kernel_rfl) rfl; have hH := holds_of hE hR; have hsz : es.toArray.size = es.length := by simp
 have hcmp : Go.Proofs.CmpLays Tryz.prog 105 #[] cellsE 3 cmpE g 0 es.toArray.size w := fun _ _ _ _ x y => closure_any x y _; have hcon := Go.Proofs.AnyQ.slices_SortFunc sfLays 3 (fun W => Tryz.isAgg43 W) (fun W => Tryz.sizeOf43 W) cellsE cellsE_len cellsE_one cmpE (by rw [lt_is]; exact swoE) 105 #[] g 0 cap es.toArray w eg hcmp hH hg (by rw [hsz]; omega); rw [hsz, lt_is] at hcon; refine hcon.mono ?_; rintro e w' ⟨rfl, d, n, os, hp, hs, rfl⟩; have hds : d.size = es.length := hp.1.trans hsz
 have hperm : d.toList.Perm es := by
  have h := hp.2.2; rw [show d.extract 0 es.length = d from by rw [← hds]; simp, show es.toArray.extract 0 es.length = es.toArray from by rw [← hsz]; simp] at h; exact h
 have hH2 := Go.Proofs.holdsK_sortWorldK_c cellsE 3 w g 0 es.toArray d n os hH hg (by rw [hds, hsz]); obtain ⟨h1, h2⟩ := ents_of hH2; exact ⟨rfl, d.toList, by rw [Array.length_toList, hds], hperm, sorted_rise hperm (by rw [hds]; exact hs) hd, h1, h2, sort_but⟩
end Go.Proofs.YteppodogghjfhaaGreatDoor
