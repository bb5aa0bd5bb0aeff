/-
  The walks of the exact laws' marks.
-/
import Derived.Laws.IdiomStrings
import Derived.Test.YteedhlljcfojfaaDoorHPk12
namespace Go.Proofs.YteedhlljcfojfaaDoor
open Go.RowKit Go.Lib Go.Sort

def digC (j : Nat) : UInt8 := UInt8.ofNat (48 + j % 10)
/-- The digits of a number, ahead of a text. -/
def digS (k : Nat) (out : ByteArray) : ByteArray := if _h : k = 0 then out else digS (k / 10) (⟨#[digC k]⟩ ++ out)
termination_by k
decreasing_by omega
/-- The mark of a number. -/
def markS (k : Nat) : ByteArray := ⟨#[109]⟩ ++ (if k = 0 then ⟨#[48]⟩ else digS k ⟨#[]⟩)
theorem dig_step (k : Nat) (out : ByteArray) (h : 0 < k) : digS k out = digS (k / 10) (⟨#[digC k]⟩ ++ out) := by
  rw [digS, dif_neg (by omega)]
theorem dig_zero (out : ByteArray) : digS 0 out = out := by rw [digS, dif_pos rfl]

theorem conv_one (W : World) (j : Nat) : (convert 73 9 (.slice (some ⟨W.heap.size, 0, none⟩) 1 1)).run Tryd.prog (W.alloc (.cells #[.int .u8 (48 + (j : Int) % 10)] 5)) = .ok (.string ⟨#[digC j]⟩) (W.alloc (.cells #[.int .u8 (48 + (j : Int) % 10)] 5)) := by
  have h := run_convert_bytes_back (P := Tryd.prog) (W.alloc (.cells #[.int .u8 (48 + (j : Int) % 10)] 5)) 73 9 5 ⟨W.heap.size, 0, none⟩ 1 [digC j] Tryd.underlying73 Tryd.underlying5 Tryd.underlying9 (fun i hi => by
    have : i = 0 := by simpa using hi
    subst this
    have hj : 48 + j % 10 < 256 := by omega
    simp [digC, Addr.add, Nat.mod_eq_of_lt hj])
  exact h

set_option maxHeartbeats 800000 in
set_option maxRecDepth 100000 in
theorem markText_any (k : Nat) (hk : 0 < k) (hk' : k ≤ 16777216) (w : World) :
    Calls Tryd.prog 25 #[.int .i64 k] w fun r w' => r = .returned (.string (markS k)) ∧ Below w.heap.size w w' := by
  go_enter Tryd.func25, Tryd.ntmps25
  go_wp2
  go_loopw [0, 3] (fun iv ov wl => ∃ (j : Nat) (out : ByteArray), iv = .int .i64 j ∧ ov = .string out ∧ out.size + j ≤ k ∧ Hid (digS j out = digS k ⟨#[]⟩) ∧ Hid (RowKit.Below w.heap.size w wl)) (fun iv _ _ => (RowKit.intOf iv).toNat)
  case atStart => exact ⟨k, ⟨#[]⟩, rfl, rfl, by show 0 + k ≤ k; omega, rfl, RowKit.Below.refl _ _⟩
  case round =>
    obtain ⟨j, out, rfl, rfl, hj, HD, HB⟩ := hrel
    by_cases h0 : 0 < j
    · have HD2 := hidE (dig_step j out h0)
      have hcv := conv_one wr j
      have hz := HB.out.size
      have HB2 := hidE (HB.out.alloc hz (.cells #[.int .u8 (48 + (j : Int) % 10)] 5))
      clear HB
      go_wp2
      go_roundw
      case rel => exact ⟨j / 10, _, by first | rfl | (congr 1) | go_num, rfl, by rw [ByteArray.size_append]; show 1 + _ + _ ≤ _; omega, by show _ = _; rw [← HD2.out, HD.out], HB2⟩
      case measure => simp [RowKit.intOf]; omega
    · have HM : Hid (markS k = ⟨#[109]⟩ ++ out) := by
        have hj0 : j = 0 := by omega
        show _ = _; unfold markS; rw [if_neg (by omega), ← HD.out, hj0, dig_zero]
      clear HD
      go_wp2
      go_ret
      exact ⟨ret_str' HM.out.symm, HB.out⟩
end Go.Proofs.YteedhlljcfojfaaDoor
