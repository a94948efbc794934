/-
  Numbers laid down, eight bytes each: the program's payload, walked.
-/
import Derived.Test.YtionggfecikedaaBytes
import Derived.Test.YtionggfecikedaaLe4
import Derived.Test.YtionggfecikedaaLeN
namespace Go.Proofs.Ytionggfecikedaa
open Go.RowKit

def payN (vs : List Nat) : List Nat := vs.flatMap (fun v => leN v 8)
theorem payN_len (vs : List Nat) : (payN vs).length = 8 * vs.length := by
  induction vs with
  | nil => rfl
  | cons v vs ih => simp [payN, leN_len] at *; omega
theorem payN_lt (vs : List Nat) : ∀ z ∈ payN vs, z < 256 := by
  intro z hz
  obtain ⟨v, _, hv⟩ := List.mem_flatMap.1 hz
  exact leN_lt v 8 z hv
/-- behind k rounds -/
def payTo (vs : List Nat) (n k : Nat) : List Nat := payN (vs.take k) ++ List.replicate (8 * (n - k)) 0
theorem leN_eight (v : Nat) (h : v < 4294967296) : leN v 8 = le4 v ++ [0, 0, 0, 0] := by
  simp [leN, le4]
  omega
theorem payTo_one (vs : List Nat) (n k v : Nat) (hv : vs[k]? = some v) (hn : vs.length = n) (h32 : v < 4294967296) : putN (putN (payTo vs n k) (8 * k) v 4) (8 * k + 4) 0 4 = payTo vs n (k + 1) := by
  have hk : k < vs.length := (List.getElem?_eq_some_iff.1 hv).1
  have hl : (payN (vs.take k)).length = 8 * k := by rw [payN_len, List.length_take]; omega
  have e1 : payTo vs n k = payN (vs.take k) ++ List.replicate 4 0 ++ (List.replicate 4 0 ++ List.replicate (8 * (n - (k + 1))) 0) := by
    unfold payTo
    rw [List.append_assoc, ← List.append_assoc (List.replicate 4 0), List.replicate_append_replicate, List.replicate_append_replicate]
    congr 2
    omega
  rw [e1, ← hl, putN_four _ _ _ _ (by simp)]
  have e2 : payN (vs.take k) ++ le4 v ++ (List.replicate 4 0 ++ List.replicate (8 * (n - (k + 1))) 0) = (payN (vs.take k) ++ le4 v) ++ List.replicate 4 0 ++ List.replicate (8 * (n - (k + 1))) 0 := by simp [List.append_assoc]
  have hl2 : (payN (vs.take k) ++ le4 v).length = (payN (vs.take k)).length + 4 := by simp [le4_len]
  rw [e2, ← hl2, putN_four _ _ _ _ (by simp)]
  unfold payTo
  have e3 : vs.take (k + 1) = vs.take k ++ [v] := by
    rw [List.getElem?_eq_getElem hk] at hv
    rw [List.take_succ_eq_append_getElem hk, Option.some.inj hv]
  rw [e3]
  simp only [payN, List.flatMap_append, List.flatMap_cons, List.flatMap_nil, List.append_nil, leN_eight v h32]
  simp [le4]
theorem payTo_len (vs : List Nat) (n k : Nat) (hk : k ≤ n) (hn : vs.length = n) : (payTo vs n k).length = 8 * n := by
  unfold payTo
  rw [List.length_append, payN_len, List.length_take, List.length_replicate]
  omega
theorem payTo_lt (vs : List Nat) (n k : Nat) : ∀ z ∈ payTo vs n k, z < 256 := by
  intro z hz
  rcases List.mem_append.1 hz with h | h
  · exact payN_lt _ z h
  · have := List.eq_of_mem_replicate h
    omega
set_option maxRecDepth 4000 in
set_option maxHeartbeats 2000000 in
theorem payload_any (Y n cap : Nat) (vs : List Nat) (w : World) (hY : ∀ (i v : Nat), vs[i]? = some v → w.cell? ⟨Y, i, none⟩ = some (.int .i64 (v : Int))) (hn : vs.length = n) (hn9 : n ≤ 1000) (hv : ∀ v ∈ vs, v < 4294967296) :
    Calls Try.prog 57 #[.slice (some ⟨Y, 0, none⟩) n cap] w fun e w' => e = .returned (.slice (some ⟨w.heap.size, 0, none⟩) (8 * n) (8 * n)) ∧ w'.ownsRow w.heap.size 5 1 (.slice (some ⟨w.heap.size, 0, none⟩) (8 * n) (8 * n)) (8 * n) ((payN vs).map bv) ∧ w.grownBy w' none := by
  have HY : Hid ((∀ (i v : Nat), vs[i]? = some v → w.cell? ⟨Y, i, none⟩ = some (.int .i64 (v : Int))) ∧ vs.length = n ∧ ∀ v ∈ vs, v < 4294967296) := ⟨hY, hn, hv⟩
  clear hY hn hv
  obtain ⟨i0, hi, hz0, hz1, hz2⟩ := info_parts Try.infoByte
  obtain ⟨N, hN⟩ : ∃ N, 8 * n = N := ⟨_, rfl⟩
  have hNI : (8 : Int) * (n : Int) = (N : Int) := by omega
  have HN : Hid (8 * n = N) := hN
  have hNb : N ≤ 8000 := by omega
  rw [hN]
  clear hN
  go_enter Try.func57, Try.ntmps57
  go_wp2_with (at_make; refine wpList_make_full _ rfl (.tmp 8) (.tmp 8) 31 rfl w.heap.size 5 i0 (.int .u8 0) 1 Try.underlying31 hi hz0 hz1 .i64 .i64 N N N rfl rfl rfl rfl ?cb ?cm (Nat.le_refl _) ?_)
  case cb => rw [hz2]; omega
  case cm => unfold maxLen; omega
  intro w1 hown hgrow
  have HO : Hid (w1.ownsRow w.heap.size 5 1 (.slice (some ⟨w.heap.size, 0, none⟩) N N) N ((payTo vs n 0).map bv)) := by
    have e : (madeCells #[Value.int .u8 0] N).toList = (payTo vs n 0).map bv := by
      have := HN.out
      simp [payTo, payN, toList_madeCells_one, bv, ← this]
    rw [← e]; exact hown
  have HG : Hid (w.grownBy w1 none) := hgrow
  clear hown hgrow
  go_wp2
  go_loopw [12] (fun i wr => ∃ k : Nat, k ≤ n ∧ i = .int .i64 (k : Int) ∧ wr.ownsRow w.heap.size 5 1 (.slice (some ⟨w.heap.size, 0, none⟩) N N) N ((payTo vs n k).map bv) ∧ w.grownBy wr none) (fun i _ => n - (intOf i).toNat)
  case atStart => exact ⟨0, Nat.zero_le _, rfl, HO.out, HG.out⟩
  case round =>
    clear HO HG
    obtain ⟨k, hk, rfl, hO, hG⟩ := hrel
    have HO : Hid (wr.ownsRow w.heap.size 5 1 (.slice (some ⟨w.heap.size, 0, none⟩) N N) N ((payTo vs n k).map bv) ∧ w.grownBy wr none) := ⟨hO, hG⟩
    by_cases hlt : k < n
    · obtain ⟨v, hv⟩ : ∃ v, vs[k]? = some v := ⟨_, List.getElem?_eq_getElem (by rw [HY.out.2.1]; exact hlt)⟩
      have hcv : wr.cell? ⟨Y, k, none⟩ = some (.int .i64 (v : Int)) := by
        have h0 := HY.out.1 k v hv
        exact ((bcell hG).1 _ _ (cell_block_lt h0)).trans h0
      have hv32 := HY.out.2.2 v (List.mem_of_getElem? hv)
      have HP : Hid (putN (putN (payTo vs n k) (8 * k) v 4) (8 * k + 4) 0 4 = payTo vs n (k + 1) ∧ (payTo vs n k).length = N) := ⟨payTo_one vs n k v hv HY.out.2.1 hv32, by rw [payTo_len vs n k hk HY.out.2.1]; exact HN.out⟩
      obtain ⟨k8, hk8⟩ : ∃ k8, 8 * k = k8 := ⟨_, rfl⟩
      have hk8I : (8 : Int) * (k : Int) = (k8 : Int) := by omega
      have HK8 : Hid (8 * k = k8 ∧ k8 + 8 ≤ N) := ⟨hk8, by have := HN.out; omega⟩
      have z0 : ¬ N = k8 := by have := HN.out; omega
      have z1 : ¬ N = k8 + 4 := by have := HN.out; omega
      have z2 : (k8 : Int) ≤ (N : Int) := by have := HN.out; omega
      have z3 : (k8 : Int) + 4 ≤ (N : Int) := by have := HN.out; omega
      have hkI : (k : Int) < (n : Int) := by omega
      have d0 : (v : Int) / 4294967296 = 0 := by omega
      have d1 : v / 4294967296 = 0 := by omega
      clear hv hO hG hk8
      go_wp2_with fail
      refine (putNumber_row w.heap.size N N w.heap.size k8 (N - k8) (N - k8) v (payTo vs n k) _ HO.out.1 (payTo_lt vs n k) (by have := HK8.out.2; omega) (by omega) (by rw [HP.out.2]; have := HK8.out.2; omega) hv32).mono ?_
      rintro e w2 ⟨rfl, hO2, hG2⟩
      have H2 : Hid (w2.ownsRow w.heap.size 5 1 (.slice (some ⟨w.heap.size, 0, none⟩) N N) N ((putN (payTo vs n k) k8 v 4).map bv) ∧ w.grownBy w2 none) := ⟨hO2, grownBy_new HO.out.2 hG2 (Nat.le_refl _)⟩
      clear hO2 hG2
      go_wp2_with fail
      refine (putNumber_row w.heap.size N N w.heap.size (k8 + 4) (N - (k8 + 4)) (N - (k8 + 4)) 0 _ _ H2.out.1 (putN_lt _ _ _ _ (payTo_lt vs n k)) (by have := HK8.out.2; omega) (by omega) (by rw [putN_len, HP.out.2]; have := HK8.out.2; omega) (by omega)).mono ?_
      rintro e w3 ⟨rfl, hO3, hG3⟩
      have H3 : Hid (w3.ownsRow w.heap.size 5 1 (.slice (some ⟨w.heap.size, 0, none⟩) N N) N ((payTo vs n (k + 1)).map bv) ∧ w.grownBy w3 none) := by
        refine ⟨?_, grownBy_new H2.out.2 hG3 (Nat.le_refl _)⟩
        have := HP.out.1
        rw [HK8.out.1] at this
        rw [← this]
        exact hO3
      clear hO3 hG3 HO H2
      go_wp2
      go_roundw
      case rel => exact ⟨k + 1, by omega, by go_num, H3.out.1, H3.out.2⟩
      case measure => simp [intOf]; omega
    · obtain rfl : k = n := by omega
      clear hO hG
      go_wp2
      go_ret
      refine ⟨rfl, ?_, HO.out.2⟩
      have h1 := HO.out.1
      have e : payTo vs k k = payN vs := by
        have := HY.out.2.1
        simp [payTo, ← this]
      rw [e] at h1
      exact h1
end Go.Proofs.Ytionggfecikedaa
