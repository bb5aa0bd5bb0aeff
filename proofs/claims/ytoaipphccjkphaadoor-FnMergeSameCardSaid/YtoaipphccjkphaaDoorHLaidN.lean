import Derived.Stop.LaidErr
namespace Go.Proofs.YtoaipphccjkphaaDoor
open Go.RowKit Go.ChangeShapes
theorem sents {P : Program} {W : World} {nm : String} {ti tp te ts : TypeId} {ms : Array (String × TypeId)} {f : Field}
  (hi : P.underlying ti = some (.interface ms)) (hrow : ∀ u, P.typeName? 3 u = some nm → u = tp)
  (hp : P.underlying tp = some (.pointer te)) (he : P.underlying te = some (.struct #[f])) (hft : f.type = ts) (hfo : f.offset = 0) (hs : P.underlying ts = some .string) (hc : P.cellsOf te = 1) (hcs : P.cellsOf ts = 1) :
  ∀ (L : List (String × List UInt8)) (gs : List Nat) (ps : List MemPlace), DataW.LaidVars P W (L.map fun x => (x.1, .iface nm (.ptr (.agg [.lit (.string x.2)])))) ps → gs.length = L.length →
   (∀ x ∈ L.zip gs, P.globalNamed x.1.1 = some x.2 ∧ (P.globals[x.2]?).map (·.type) = some ti) →
   (∀ b off, MemPlace.cell b off ∈ ps → (∃ c t, W.heap[b]? = some (.cells c t (0, 0))) ∧ ∀ u v, W.cell? ⟨b, off, none⟩ = some (.iface u v) → Value.okWide P W .any 0 u v) →
   ∃ ads : List Addr, ads.length = L.length ∧ List.Sublist (ads.map fun a => MemPlace.cell a.block a.off) ps ∧ ∀ x ∈ gs.zip ads, W.cell? ⟨x.1, 0, none⟩ = some (.iface tp (.pointer (some x.2)))
 | [], gs, ps, _, _, _, _ => ⟨[], rfl, List.nil_sublist _, fun x hx => by simp at hx⟩
 | (n, tx) :: r, [], _, _, hl, _, _ => by simp at hl
 | (n, tx) :: r, g :: gr, ps, h, hl, hg, hrows => by
  obtain ⟨g0, t0, cs0, f0, p0, q0, hg0, ht0, hv0, hd0, hr0, e0⟩ := h; obtain ⟨k1, k2⟩ := hg ((n, tx), g) (by simp); obtain rfl := Option.some.inj (k1.symm.trans hg0); obtain rfl := Option.some.inj (k2.symm.trans ht0); subst e0; obtain ⟨l0⟩ := cs0
  have ok0 : ∀ u v, l0 = [.iface u v] → Value.okWide P W .any 0 u v := fun u v e => by
   subst e; exact (hrows g 0 (by simp [MemPlace.row])).2 u v (by simpa using World.var?_cell hg0 hv0 0)
  obtain ⟨a0, s0, rfl, hc0, hs0, hz0, rfl⟩ := errorString_of_trod hi hrow hp he hft hfo hs hc hcs hd0 ok0; obtain ⟨ads, e1, e2, e3⟩ := sents hi hrow hp he hft hfo hs hc hcs r gr q0 hr0 (by simpa using hl) (fun x hx => hg x (by rw [List.zip_cons_cons]; exact List.mem_cons_of_mem _ hx)) (fun b off hm => hrows b off (by simp [hm])); refine ⟨a0 :: ads, by simp [e1], ?_, fun x hx => ?_⟩
  ·
   simp only [List.map_cons, MemPlace.row, List.range_one, List.map_nil, List.append_assoc, List.singleton_append]; refine List.Sublist.cons _ ?_
   simpa using e2
  ·
   rw [List.zip_cons_cons] at hx; rcases List.mem_cons.1 hx with rfl | hx
   ·
    simpa using World.var?_cell hg0 hv0 0
   ·
    exact e3 x hx
end Go.Proofs.YtoaipphccjkphaaDoor
