import Derived.Test.YtoaipphccjkphaaDoorHPk12
import Derived.Test.YtoaipphccjkphaaDoorHRdFresh
namespace Go.Proofs.YtoaipphccjkphaaDoor
open Go.RowKit Go.Lib
set_option maxHeartbeats 1600000 in
set_option maxRecDepth 100000 in
theorem freshList_any (w : World) (a : Option Addr) (g o cap : Nat) (es : List E) (hn : es.length ≤ 1000) (hz : ∀ e ∈ es, e.p.size ≤ 16777216 ∧ e.x.size ≤ 16777216) (ha : 0 < es.length → a = some ⟨g, o, none⟩) (hE : Ents w g o es) :
  Calls Tryd.prog 36 #[.slice a es.length cap, .func (.func 37) #[] #[]] w fun r w' => ∃ v, r = .returned v ∧ OwnE w' w.heap.size v es ∧ Below w.heap.size w w' := by
 obtain ⟨i0, hi, hx0⟩ := Option.map_eq_some_iff.1 Tryd.infoE'; simp only [Prod.mk.injEq] at hx0; obtain ⟨hz0, hz1, hz2⟩ := hx0; have HE := hidE hE; have HZ := hidE hz; clear hE hz; go_enter Tryd.func36, Tryd.ntmps36
 go_wp2
 go_loopw [5, 10] (fun tv iv wl => ∃ j : Nat, j ≤ es.length ∧ iv = .int .i64 j ∧ OwnE wl w.heap.size tv (es.take j) ∧ Hid (Below w.heap.size w wl)) (fun _ iv _ => es.length - (RowKit.intOf iv).toNat)
 case atStart => exact ⟨0, Nat.zero_le _, rfl, World.ownsRow_nil _ _ _ _, Below.refl _ _⟩
 case round =>
  obtain ⟨j, hj, rfl, hown, HB⟩ := hrel; by_cases hlt : j < es.length
  ·
   obtain rfl := ha (by omega); obtain ⟨c0, c1, c2⟩ := (HE.out.below HB.out) j hlt; have hz := HZ.out es[j] (List.getElem_mem hlt); have HT := hidE (show es.take (j + 1) = es.take j ++ [es[j]] from List.take_succ_eq_append_getElem hlt); obtain ⟨p, hp⟩ : ∃ p, es[j].p = p := ⟨_, rfl⟩
   obtain ⟨d, hd⟩ : ∃ d, es[j].d = d := ⟨_, rfl⟩
   obtain ⟨x, hx⟩ : ∃ x, es[j].x = x := ⟨_, rfl⟩
   have HX : es[j] = ⟨p, d, x⟩ := by rw [← hp, ← hd, ← hx]
   rw [hp] at c0 hz; rw [hd] at c1; rw [hx] at c2 hz; rw [HX] at HT; clear hp hd hx HX; have hlen : (es.take j).length ≤ 1000 := by rw [List.length_take]; omega
   obtain ⟨ts, hts⟩ : ∃ ts, es.take j = ts := ⟨_, rfl⟩
   rw [hts] at hown hlen HT; clear hts; have HBa := hidE (HB.out.alloc HB.out.size (.cells #[.string p, .bool d, .string x] 27)); have hown1 := hown.alloc (.cells #[.string p, .bool d, .string x] 27); have HC := hidE (fun W => freshEnt_any p x d W (by omega) (by omega)); clear hown HB
   go_wp2_with (first
    | (go_at_call 37; refine (HC.out _).mono ?_; rintro e w1 ⟨rfl, hB1⟩; have HB1 := hidE (HBa.out.trans (hB1.mono HBa.out.size)); have hown2 : OwnE w1 w.heap.size _ ts := OwnE.below hown1 hB1; have hs1 := HB1.out.size; have hc1 := cells_new w1 ⟨p, d, x⟩)
    | (at_builtin; refine wpList_append_own _ rfl (.tmp 14) (.tmp 18) 23 rfl w.heap.size 27 i0 _ 3 40 Tryd.underlying23 hi hz0 hz1 hz2 rfl (by decide) _ ts.length (rowE ts) rfl (hown2.alloc _) ⟨w1.heap.size, 0, none⟩ 1 1 (cellsE ⟨p, d, x⟩) rfl rfl hc1 rowE_one' (by unfold maxLen; omega) (by omega) (by simp; omega) ?_; intro v4 w4 hown4 hgrow4 _)
    | fail)
   have HB4 := hidE ((HB1.out.alloc hs1 _).grown hgrow4 (by simp; omega) (fun k hk => (hown2.lt k hk).1)); have hown5 := OwnE.push hown4; clear hown4 hgrow4 HB1 hown2; go_roundw
   case rel => exact ⟨j + 1, by omega, by go_num, by rw [HT.out]; exact hown5, HB4⟩
   case measure => simp [RowKit.intOf]; omega
  ·
   go_wp2
   go_ret
   rw [List.take_of_length_le (by omega)] at hown; exact ⟨_, rfl, hown, HB.out⟩
end Go.Proofs.YtoaipphccjkphaaDoor
