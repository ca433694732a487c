/- The document's own tag, walked. For data of at most 50000 bytes. -/
import Derived.Test.YtjdgaolailfplaaTagRf
import Derived.Test.YtjdgaolailfplaaRfAny
namespace Go.Proofs.Ytjdgaolailfplaa
open Go.RowKit Bk
set_option linter.unusedVariables false
set_option linter.unusedSimpArgs false

set_option maxRecDepth 100000 in
set_option maxHeartbeats 4000000 in
theorem rfmake_any (id : ByteArray) (v s : Int) (d : ByteArray) (w : World) (hd : d.size ≤ 50000) :
    Calls Try.prog 10 #[.agg #[.string id, .int .i64 v, .int .i64 s, .string d]] w fun e w' => e = .returned (.tuple #[.string (omk id v s d), .int .i64 (oer id v s)]) ∧ Below w.heap.size w w' := by
  by_cases h : okOf id v s
  · have HO := hide h
    have hN : (otx id v s d).size ≤ 100000 := by rw [otx_size h]; omega
    have HN := hide hN
    obtain ⟨D, eD⟩ : ∃ D, dg 0 (txl id v s d) = D := ⟨_, rfl⟩
    have lD : D.size = 32 := by rw [← eD, dg_size]
    have lDI : (D.size : Int) = 32 := by omega
    have HD := hide eD
    have hdd := hide hd
    rw [oer_ok h]
    clear h hN eD hd lD
    go_enter Try.func10, Try.ntmps10
    go_wp2_with fail
    refine (rftext_any id v s d _ hdd.out).mono ?_
    rintro e w1 ⟨rfl, hB1⟩
    rw [oer_ok HO.out]
    have HB1 := hide (below_past hB1)
    clear hB1
    go_wp2_with fail
    refine (rfsum_any (otx id v s d) _ HN.out).mono ?_
    rintro e w2 ⟨rfl, hB2⟩
    have e1 : dg 0 (sb (otx id v s d)) = D := by rw [otx_ok HO.out, sb_mk, HD.out]
    rw [e1]
    have HB2 := hide (HB1.out.trans (hB2.mono HB1.out.size))
    clear hB2 e1
    go_wp2_with fail
    go_ret2
    rw [omk_ok HO.out, HD.out]
    exact ⟨rfl, HB2.out⟩
  · have HO := hide h
    have hdd := hide hd
    rw [oer_no h, omk_no h]
    clear h hd
    go_enter Try.func10, Try.ntmps10
    go_wp2_with fail
    refine (rftext_any id v s d _ hdd.out).mono ?_
    rintro e w1 ⟨rfl, hB1⟩
    rw [oer_no HO.out]
    have HB1 := hide (below_past hB1)
    clear hB1
    go_wp2_with fail
    go_ret2
    exact ⟨rfl, HB1.out⟩
end Go.Proofs.Ytjdgaolailfplaa
