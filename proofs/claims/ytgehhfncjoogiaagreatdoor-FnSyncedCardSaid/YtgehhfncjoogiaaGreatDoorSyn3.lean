/-
  Dk16, Dk17, Dk18, Dk19, Dk20, Dk21, Dk22, Dk23
-/
import Derived.Test.YtgehhfncjoogiaaGreatDoorSyn2
import Derived.BigQuiet
namespace Go.Proofs.YtgehhfncjoogiaaGreatDoor
open Go.RowKit Go.Maps

set_option maxRecDepth 20000 in
set_option maxHeartbeats 8000000 in
theorem crash_any (d : Nat) (M : Dk) (ms : List Bd) (B : Nat) (ca : Option Addr) (cn cc : Nat) (C : List Nat) (w : World) (h : DkAt w B d M ms) (hq : M.queue.length ≤ 100000) (hN : M.N + totk M.queue ≤ 1000000) (hsl : SlB w ca cn C) (hca : ∀ b off, ca = some ⟨b, off, none⟩ → b < B) :
    Calls Tryz.prog 47 #[.pointer (some ⟨d, 0, none⟩), .slice ca cn cc] w fun e w' => e = .returned (.tuple #[]) ∧ CrashOut w w' B d M ms C := by
  obtain ⟨qn, hqn⟩ : ∃ x, M.queue.length = x := ⟨_, rfl⟩; obtain ⟨qa, qc, hqv⟩ := own1_is h.q; rw [hqn] at hqv hq; have hbx := h.box; rw [Dk.box, hqv] at hbx; have c2 : w.cell? ⟨d, 2, none⟩ = some (.slice qa qn qc) := (zCr hbx).trans rfl; have HD : Hid (DkAt w B d M ms) := h; have HQ : Hid (M.qv = .slice qa qn qc ∧ M.queue.length = qn) := ⟨hqv, hqn⟩; have HSL : Hid (SlB w ca cn C ∧ ∀ b off, ca = some ⟨b, off, none⟩ → b < B) := ⟨hsl, hca⟩; have HNN : Hid (M.N + totk M.queue ≤ 1000000) := hN; clear h hqn hqv hbx hsl hca hN
  go_enter Tryz.func47, Tryz.ntmps47
  go_wp2
  go_loopw [4, 15] (fun pv iv wr => ∃ k, k ≤ qn ∧ iv = .int .i64 (k : Int) ∧ pv = .int .i64 (npsum (M.queue.take k) : Int) ∧ CrSt w wr B d M (crashP C (M.queue.take k) 0 (ms.map Bd.tell)) (M.N + totk (M.queue.take k)) (crashD C (M.queue.take k) 0 M.SD)) (fun _ i _ => qn - (intOf i).toNat)
  case atStart => exact ⟨0, Nat.zero_le _, rfl, rfl, CrSt.start HD.out⟩
  case round =>
    obtain ⟨k, hk, rfl, rfl, hst⟩ := hrel
    by_cases hlt : k < qn
    · obtain ⟨x, hx⟩ : ∃ x, M.queue[k]? = some x := ⟨_, List.getElem?_eq_getElem (by rw [HQ.out.2]; exact hlt)⟩; have hxm := List.mem_of_getElem? hx
      have HTK : Hid (M.queue.take (k + 1) = M.queue.take k ++ [x]) := by
        show _ = _
        rw [List.take_add_one, hx]
        rfl
      obtain ⟨ga, rfl⟩ : ∃ g, qa = some ⟨g, 0, none⟩ := own1_addr (by have h8 := HD.out.q; rw [HQ.out.1, HQ.out.2] at h8; exact h8) (by omega)
      have hkI : (k : Int) < (qn : Int) := by omega
      have v1 : IntKind.i64.wrap ((k : Int) + 1) = (k : Int) + 1 := IntWalk.i64_in _ (by omega); obtain ⟨pn, hpn⟩ : ∃ y, npcs x = y := ⟨_, rfl⟩
      have hp1 : pn ≤ 3000 := by rw [← hpn]; exact npcs_le (hst.chs x hxm)
      have hsb : npsum (M.queue.take k) ≤ 300000000 := by
        have h9 := npsum_le (w := w) (B := B) (M.queue.take k) (fun y hy => HD.out.chs y (List.mem_of_mem_take hy)); rw [List.length_take] at h9
        omega
      obtain ⟨P0, N0, D0, sn, HE⟩ : ∃ P0 N0 D0 sn, Hid (P0 = crashP C (M.queue.take k) 0 (ms.map Bd.tell) ∧ D0 = crashD C (M.queue.take k) 0 M.SD ∧ N0 = M.N + totk (M.queue.take k) ∧ npsum (M.queue.take k) = sn) := ⟨_, _, _, _, rfl, rfl, rfl, rfl⟩
      have HP0 : Hid (P0.map (·.1) = (ms.map Bd.tell).map (·.1) ∧ N0 + npcs x * x.bs.length ≤ 1000000) := by
        refine ⟨by rw [HE.out.1, crashP_fst], ?_⟩; have h9 := totk_le (xs := M.queue) (k + 1); rw [HTK.out, totk_snoc] at h9; have := HNN.out; have := HE.out.2.2.1
        omega
      have HR : Hid (CrSt w wr B d M P0 N0 D0) := by rw [HE.out.1, HE.out.2.1, HE.out.2.2.1]; exact hst
      rw [HE.out.2.2.2] at hsb ⊢; clear hst c2
      have hkk : x.kind = 1 ∨ x.kind = 2 ∨ x.kind = 3 := by
        rcases HR.out.chs x hxm with ⟨h1, -⟩ | ⟨h1, -⟩ | ⟨h1, -⟩
        · exact .inl h1
        · exact .inr (.inl h1)
        · exact .inr (.inr h1)
      rcases hkk with hkd | hkd | hkd
      · skip
        have hp0 : pieceF x = 136 := by simp [pieceF, hkd]
        have hf0 : Hid (keptF x = 133) := by show _ = _; simp [keptF, hkd]
        have HC : Hid (Calls _ _ _ _ _) := pieces_any x B wr (HR.out.chs x hxm); rw [hp0, hpn] at HC
        have cq : wr.cell? ⟨ga, k, none⟩ = some (.iface 155 (.pointer (some ⟨x.c, 0, none⟩))) := by
          have h9 : x.cell = .iface 155 (.pointer (some ⟨x.c, 0, none⟩)) := by simp [Ch.cell, hkd]
          rw [← h9]; have h8 := HR.out.q; rw [HQ.out.1, HQ.out.2] at h8; exact own1_at h8 (by simp [hx])
        clear hkd hp0; go_wp2_with fail; refine HC.out.mono ?_; rintro e w1 ⟨rfl, hg1⟩; have HR1 : Hid (CrSt w w1 B d M P0 N0 D0) := HR.out.grown HD.out hg1; clear HC hg1 HR cq; go_wp2
        go_loopw [4, 21] (fun pv iv wi => ∃ p, p ≤ pn ∧ iv = .int .i64 (p : Int) ∧ pv = .int .i64 ((sn + p : Nat) : Int) ∧ CrSt w wi B d M (keptX C x sn p P0) (N0 + p * x.bs.length) (keptXD C x sn p D0)) (fun _ i _ => pn - (intOf i).toNat)
        case atStart => exact ⟨0, Nat.zero_le _, rfl, by first | rfl | (simp; done) | go_num, by rw [Nat.zero_mul]; exact HR1.out⟩
        case round =>
          obtain ⟨p, hp, rfl, rfl, hst⟩ := hrel; have HR : Hid (CrSt w wr B d M (keptX C x sn p P0) (N0 + p * x.bs.length) (keptXD C x sn p D0)) := hst; clear hst HR1; obtain ⟨s, hs⟩ : ∃ y, sn + p = y := ⟨_, rfl⟩; rw [hs]; have v2 : IntKind.i64.wrap ((s : Int) + 1) = (s : Int) + 1 := IntWalk.i64_in _ (by omega); have v3 : IntKind.i64.wrap ((p : Int) + 1) = (p : Int) + 1 := IntWalk.i64_in _ (by omega)
          by_cases hpl : p < pn
          · have hpI : (p : Int) < (pn : Int) := by omega
            by_cases hcl : s < cn
            · have hcI : (s : Int) < (cn : Int) := by omega
              obtain ⟨ch, hch⟩ : ∃ y, C.getD s 0 = y := ⟨_, rfl⟩; obtain ⟨cb, co, hca, hcs⟩ := HSL.out.1.2.2 (by omega); obtain rfl := hca
              have HCH : Hid (C[sn + p]? = some ch ∧ ch < 256) := by
                have hl : s < C.length := by rw [HSL.out.1.1]; exact hcl
                have e9 : C[s]? = some ch := by rw [← hch, List.getD_eq_getElem?_getD, List.getElem?_eq_getElem hl]; rfl
                refine ⟨by rw [hs]; exact e9, HSL.out.1.2.1 ch (List.mem_of_getElem? e9)⟩
              have HCC : Hid (w.cell? ⟨cb, co + s, none⟩ = some (.int .u8 (ch : Int))) := by show _ = _; rw [← hch]; exact hcs s hcl
              have HB8 : Hid (wr.heap[d]? = some (.cells #[.map (some M.lb), .map (some M.sb), .slice (some ⟨ga, 0, none⟩) qn qc, .int .i64 M.cap, .int .i64 M.fuse, .bool M.off, .int .i64 M.cnt] 90 (0, 0)) ∧ wr.cell? ⟨cb, co + s, none⟩ = some (.int .u8 (ch : Int))) := by
                refine ⟨?_, ?_⟩
                · have h8 := HR.out.box; rw [Dk.box, HQ.out.1] at h8; exact h8
                · exact (World.cell?_of_block (w := w) (a := ⟨cb, co + s, none⟩) (HR.out.low cb (HSL.out.2 cb co rfl))).trans HCC.out
              have HCALL : Hid (∀ X : World, wr.grownBy X none → Calls Tryz.prog 133 #[.pointer (some ⟨x.c, 0, none⟩), .map (some M.sb), .int .i64 (p : Int), .int .u8 (ch : Int)] X fun e w' => e = .returned (.tuple #[]) ∧ CrSt w w' B d M (keptP x p ch (keptX C x sn p P0)) (N0 + p * x.bs.length + x.bs.length) (keptD x ch (keptXD C x sn p D0))) := fun X hX => by
                rw [← hf0.out]; refine (HR.out.grown HD.out hX).piece HD.out (by rw [keptX_fst]; exact HP0.out.1) hxm (by rw [hpn]; exact hpl) HCH.out.2 ?_; have h9 := HP0.out.2; have h8 : (p + 1) * x.bs.length ≤ pn * x.bs.length := Nat.mul_le_mul_right _ (by omega); rw [hpn] at h9; rw [Nat.add_mul] at h8
                omega
              have HSS : Hid (sn + p = s) := hs; clear hcs hch HR hs
              go_upto_region 8 with fail
              refine wp_region_Z (fun Y => Y.heap[d]? = some (.cells #[.map (some M.lb), .map (some M.sb), .slice (some ⟨ga, 0, none⟩) qn qc, .int .i64 M.cap, .int .i64 M.fuse, .bool M.off, .int .i64 M.cnt] 90 (0, 0)) ∧ Y.cell? ⟨cb, co + s, none⟩ = some (.int .u8 (ch : Int))) (fun _ => false) (by kernel_rfl) ?_; have hS : wr.drew.heap[d]? = some (.cells #[.map (some M.lb), .map (some M.sb), .slice (some ⟨ga, 0, none⟩) qn qc, .int .i64 M.cap, .int .i64 M.fuse, .bool M.off, .int .i64 M.cnt] 90 (0, 0)) ∧ wr.drew.cell? ⟨cb, co + s, none⟩ = some (.int .u8 (ch : Int)) := HB8.out; refine zTk 0 ?_; simp only [Act.put, zq1, zq2, zq3]; refine zTk 1 ?_; simp only [Act.put, zq1, zq2, zq3]; refine zTk 2 ?_; simp only [Act.put, zq1, zq2, zq3]; refine zTk 3 ?_; simp only [Act.put, zq1, zq2, zq3]; refine zLs 4 rfl hS (by intro W hW; have c0 : W.cell? ⟨d, 1, none⟩ = some (.map (some M.sb)) := (zCr hW.1).trans rfl; go_simp; first | done | with_reducible rfl) ?_; simp only [Act.put, zq1, zq2, zq3]; refine zTk 5 ?_; simp only [Act.put, zq1, zq2, zq3]; refine zTk 6 ?_; simp only [Act.put, zq1, zq2, zq3]; refine zTk 7 ?_; simp only [Act.put, zq1, zq2, zq3]; refine zTk 8 ?_; simp only [Act.put, zq1, zq2, zq3]; refine zLs 9 rfl hS (by intro W hW; have c0 := hW.2; go_simp; first | done | with_reducible rfl) ?_; simp only [Act.put, zq1, zq2, zq3]; refine zTk 10 ?_; simp only [Act.put, zq1, zq2, zq3]; refine wpAnyZ_take' (i := 11) (v := ?vz12) rfl (by kernel_rfl) (by kernel_rfl) (by kernel_rfl) (fun _ _ _ h => h) (Or.inl ⟨by rfl, ?yz12⟩) ?rz12
              case yz12 => (intro w _; go_simp; simp only [Tryz.nilK1, Result.andThen]; rfl)
              simp only [Act.put, zq1, zq2, zq3]; refine zTk 12 ?_; simp only [Act.put, zq1, zq2, zq3]; clear hS; refine wpAnyZ_one' (i := 13) (by kernel_rfl) rfl (fun K hK => ?_); go_simp; rw [Tryz.methK1, Result.andThen_ok]; go_simp; go_at_call 133; refine (HCALL.out wr.drew (grownBy_drew (grownBy_refl _ _))).mono ?_; rintro e w5 ⟨rfl, hso⟩
              have hS5 : w5.heap[d]? = some (.cells #[.map (some M.lb), .map (some M.sb), .slice (some ⟨ga, 0, none⟩) qn qc, .int .i64 M.cap, .int .i64 M.fuse, .bool M.off, .int .i64 M.cnt] 90 (0, 0)) ∧ w5.cell? ⟨cb, co + s, none⟩ = some (.int .u8 (ch : Int)) := by
                refine ⟨?_, ?_⟩
                · have h8 := hso.box; rw [Dk.box, HQ.out.1] at h8; exact h8
                · exact (World.cell?_of_block (w := w) (a := ⟨cb, co + s, none⟩) (hso.low cb (HSL.out.2 cb co rfl))).trans HCC.out
              refine hK.out _ _ (fun _ _ => hS5) ?_; clear hK K hS5; (try simp only [Act.put, zq1, zq2, zq3])
              have HN : Hid (CrSt w w5 B d M (keptX C x sn (p + 1) P0) (N0 + (p + 1) * x.bs.length) (keptXD C x sn (p + 1) D0)) := by
                have e9 : C[sn + p]? = some ch := HCH.out.1
                unfold keptX keptXD
                rw [e9, show N0 + (p + 1) * x.bs.length = N0 + p * x.bs.length + x.bs.length by rw [Nat.add_mul]; omega]; exact hso
              clear hso HCALL HB8; refine wpAnyZ_done (by kernel_rfl) ?_ _; go_wp2; go_roundw
              case rel => exact ⟨p + 1, hpl, by go_num, by rw [show sn + (p + 1) = s + 1 by have := HSS.out; omega]; go_num, HN.out⟩
              case measure => simp [intOf]; omega
            · have hcI : ¬ (s : Int) < (cn : Int) := by omega
              have HN : Hid (CrSt w wr B d M (keptX C x sn (p + 1) P0) (N0 + (p + 1) * x.bs.length) (keptXD C x sn (p + 1) D0)) := by
                have e9 : C[sn + p]? = none := List.getElem?_eq_none (by rw [hs, HSL.out.1.1]; omega); have h9 := HR.out
                unfold keptX keptXD
                rw [e9]; refine ⟨h9.box, h9.dl, h9.q, h9.chs, h9.mv, h9.low, h9.bods, h9.ds.mono ?_⟩; rw [Nat.add_mul]
                omega
              clear HR; go_wp2; go_roundw
              case rel => exact ⟨p + 1, hpl, by go_num, by rw [← hs]; go_num, HN.out⟩
              case measure => simp [intOf]; omega
          · obtain rfl : pn = p := by omega
            have hpI : ¬ (pn : Int) < (pn : Int) := by omega
            have HN : Hid (CrSt w wr B d M (crashP C (M.queue.take (k + 1)) 0 (ms.map Bd.tell)) (M.N + totk (M.queue.take (k + 1))) (crashD C (M.queue.take (k + 1)) 0 M.SD) ∧ npsum (M.queue.take (k + 1)) = s) := by
              rw [HTK.out, crashP_snoc, crashD_snoc, totk_snoc, npsum_snoc, Nat.zero_add, hpn, HE.out.2.2.2, ← Nat.add_assoc, ← HE.out.2.2.1, ← HE.out.1, ← HE.out.2.1]; exact ⟨HR.out, hs⟩
            clear HR hs; go_wp2; go_roundw
            case rel => exact ⟨k + 1, hlt, by go_num, by rw [HN.out.2], HN.out.1⟩
            case measure => simp [intOf]; omega
      · skip
        have hp0 : pieceF x = 140 := by simp [pieceF, hkd]
        have hf0 : Hid (keptF x = 137) := by show _ = _; simp [keptF, hkd]
        have HC : Hid (Calls _ _ _ _ _) := pieces_any x B wr (HR.out.chs x hxm); rw [hp0, hpn] at HC
        have cq : wr.cell? ⟨ga, k, none⟩ = some (.iface 158 (.pointer (some ⟨x.c, 0, none⟩))) := by
          have h9 : x.cell = .iface 158 (.pointer (some ⟨x.c, 0, none⟩)) := by simp [Ch.cell, hkd]
          rw [← h9]; have h8 := HR.out.q; rw [HQ.out.1, HQ.out.2] at h8; exact own1_at h8 (by simp [hx])
        clear hkd hp0; go_wp2_with fail; refine HC.out.mono ?_; rintro e w1 ⟨rfl, hg1⟩; have HR1 : Hid (CrSt w w1 B d M P0 N0 D0) := HR.out.grown HD.out hg1; clear HC hg1 HR cq; go_wp2
        go_loopw [4, 21] (fun pv iv wi => ∃ p, p ≤ pn ∧ iv = .int .i64 (p : Int) ∧ pv = .int .i64 ((sn + p : Nat) : Int) ∧ CrSt w wi B d M (keptX C x sn p P0) (N0 + p * x.bs.length) (keptXD C x sn p D0)) (fun _ i _ => pn - (intOf i).toNat)
        case atStart => exact ⟨0, Nat.zero_le _, rfl, by first | rfl | (simp; done) | go_num, by rw [Nat.zero_mul]; exact HR1.out⟩
        case round =>
          obtain ⟨p, hp, rfl, rfl, hst⟩ := hrel; have HR : Hid (CrSt w wr B d M (keptX C x sn p P0) (N0 + p * x.bs.length) (keptXD C x sn p D0)) := hst; clear hst HR1; obtain ⟨s, hs⟩ : ∃ y, sn + p = y := ⟨_, rfl⟩; rw [hs]; have v2 : IntKind.i64.wrap ((s : Int) + 1) = (s : Int) + 1 := IntWalk.i64_in _ (by omega); have v3 : IntKind.i64.wrap ((p : Int) + 1) = (p : Int) + 1 := IntWalk.i64_in _ (by omega)
          by_cases hpl : p < pn
          · have hpI : (p : Int) < (pn : Int) := by omega
            by_cases hcl : s < cn
            · have hcI : (s : Int) < (cn : Int) := by omega
              obtain ⟨ch, hch⟩ : ∃ y, C.getD s 0 = y := ⟨_, rfl⟩; obtain ⟨cb, co, hca, hcs⟩ := HSL.out.1.2.2 (by omega); obtain rfl := hca
              have HCH : Hid (C[sn + p]? = some ch ∧ ch < 256) := by
                have hl : s < C.length := by rw [HSL.out.1.1]; exact hcl
                have e9 : C[s]? = some ch := by rw [← hch, List.getD_eq_getElem?_getD, List.getElem?_eq_getElem hl]; rfl
                refine ⟨by rw [hs]; exact e9, HSL.out.1.2.1 ch (List.mem_of_getElem? e9)⟩
              have HCC : Hid (w.cell? ⟨cb, co + s, none⟩ = some (.int .u8 (ch : Int))) := by show _ = _; rw [← hch]; exact hcs s hcl
              have HB8 : Hid (wr.heap[d]? = some (.cells #[.map (some M.lb), .map (some M.sb), .slice (some ⟨ga, 0, none⟩) qn qc, .int .i64 M.cap, .int .i64 M.fuse, .bool M.off, .int .i64 M.cnt] 90 (0, 0)) ∧ wr.cell? ⟨cb, co + s, none⟩ = some (.int .u8 (ch : Int))) := by
                refine ⟨?_, ?_⟩
                · have h8 := HR.out.box; rw [Dk.box, HQ.out.1] at h8; exact h8
                · exact (World.cell?_of_block (w := w) (a := ⟨cb, co + s, none⟩) (HR.out.low cb (HSL.out.2 cb co rfl))).trans HCC.out
              have HCALL : Hid (∀ X : World, wr.grownBy X none → Calls Tryz.prog 137 #[.pointer (some ⟨x.c, 0, none⟩), .map (some M.sb), .int .i64 (p : Int), .int .u8 (ch : Int)] X fun e w' => e = .returned (.tuple #[]) ∧ CrSt w w' B d M (keptP x p ch (keptX C x sn p P0)) (N0 + p * x.bs.length + x.bs.length) (keptD x ch (keptXD C x sn p D0))) := fun X hX => by
                rw [← hf0.out]; refine (HR.out.grown HD.out hX).piece HD.out (by rw [keptX_fst]; exact HP0.out.1) hxm (by rw [hpn]; exact hpl) HCH.out.2 ?_; have h9 := HP0.out.2; have h8 : (p + 1) * x.bs.length ≤ pn * x.bs.length := Nat.mul_le_mul_right _ (by omega); rw [hpn] at h9; rw [Nat.add_mul] at h8
                omega
              have HSS : Hid (sn + p = s) := hs; clear hcs hch HR hs
              go_upto_region 8 with fail
              refine wp_region_Z (fun Y => Y.heap[d]? = some (.cells #[.map (some M.lb), .map (some M.sb), .slice (some ⟨ga, 0, none⟩) qn qc, .int .i64 M.cap, .int .i64 M.fuse, .bool M.off, .int .i64 M.cnt] 90 (0, 0)) ∧ Y.cell? ⟨cb, co + s, none⟩ = some (.int .u8 (ch : Int))) (fun _ => false) (by kernel_rfl) ?_; have hS : wr.drew.heap[d]? = some (.cells #[.map (some M.lb), .map (some M.sb), .slice (some ⟨ga, 0, none⟩) qn qc, .int .i64 M.cap, .int .i64 M.fuse, .bool M.off, .int .i64 M.cnt] 90 (0, 0)) ∧ wr.drew.cell? ⟨cb, co + s, none⟩ = some (.int .u8 (ch : Int)) := HB8.out; refine zTk 0 ?_; simp only [Act.put, zq1, zq2, zq3]; refine zTk 1 ?_; simp only [Act.put, zq1, zq2, zq3]; refine zTk 2 ?_; simp only [Act.put, zq1, zq2, zq3]; refine zTk 3 ?_; simp only [Act.put, zq1, zq2, zq3]; refine zLs 4 rfl hS (by intro W hW; have c0 : W.cell? ⟨d, 1, none⟩ = some (.map (some M.sb)) := (zCr hW.1).trans rfl; go_simp; first | done | with_reducible rfl) ?_; simp only [Act.put, zq1, zq2, zq3]; refine zTk 5 ?_; simp only [Act.put, zq1, zq2, zq3]; refine zTk 6 ?_; simp only [Act.put, zq1, zq2, zq3]; refine zTk 7 ?_; simp only [Act.put, zq1, zq2, zq3]; refine zTk 8 ?_; simp only [Act.put, zq1, zq2, zq3]; refine zLs 9 rfl hS (by intro W hW; have c0 := hW.2; go_simp; first | done | with_reducible rfl) ?_; simp only [Act.put, zq1, zq2, zq3]; refine zTk 10 ?_; simp only [Act.put, zq1, zq2, zq3]; refine wpAnyZ_take' (i := 11) (v := ?vz25) rfl (by kernel_rfl) (by kernel_rfl) (by kernel_rfl) (fun _ _ _ h => h) (Or.inl ⟨by rfl, ?yz25⟩) ?rz25
              case yz25 => (intro w _; go_simp; simp only [Tryz.nilK2, Result.andThen]; rfl)
              simp only [Act.put, zq1, zq2, zq3]; refine zTk 12 ?_; simp only [Act.put, zq1, zq2, zq3]; clear hS; refine wpAnyZ_one' (i := 13) (by kernel_rfl) rfl (fun K hK => ?_); go_simp; rw [Tryz.methK2, Result.andThen_ok]; go_simp; go_at_call 137; refine (HCALL.out wr.drew (grownBy_drew (grownBy_refl _ _))).mono ?_; rintro e w5 ⟨rfl, hso⟩
              have hS5 : w5.heap[d]? = some (.cells #[.map (some M.lb), .map (some M.sb), .slice (some ⟨ga, 0, none⟩) qn qc, .int .i64 M.cap, .int .i64 M.fuse, .bool M.off, .int .i64 M.cnt] 90 (0, 0)) ∧ w5.cell? ⟨cb, co + s, none⟩ = some (.int .u8 (ch : Int)) := by
                refine ⟨?_, ?_⟩
                · have h8 := hso.box; rw [Dk.box, HQ.out.1] at h8; exact h8
                · exact (World.cell?_of_block (w := w) (a := ⟨cb, co + s, none⟩) (hso.low cb (HSL.out.2 cb co rfl))).trans HCC.out
              refine hK.out _ _ (fun _ _ => hS5) ?_; clear hK K hS5; (try simp only [Act.put, zq1, zq2, zq3])
              have HN : Hid (CrSt w w5 B d M (keptX C x sn (p + 1) P0) (N0 + (p + 1) * x.bs.length) (keptXD C x sn (p + 1) D0)) := by
                have e9 : C[sn + p]? = some ch := HCH.out.1
                unfold keptX keptXD
                rw [e9, show N0 + (p + 1) * x.bs.length = N0 + p * x.bs.length + x.bs.length by rw [Nat.add_mul]; omega]; exact hso
              clear hso HCALL HB8; refine wpAnyZ_done (by kernel_rfl) ?_ _; go_wp2; go_roundw
              case rel => exact ⟨p + 1, hpl, by go_num, by rw [show sn + (p + 1) = s + 1 by have := HSS.out; omega]; go_num, HN.out⟩
              case measure => simp [intOf]; omega
            · have hcI : ¬ (s : Int) < (cn : Int) := by omega
              have HN : Hid (CrSt w wr B d M (keptX C x sn (p + 1) P0) (N0 + (p + 1) * x.bs.length) (keptXD C x sn (p + 1) D0)) := by
                have e9 : C[sn + p]? = none := List.getElem?_eq_none (by rw [hs, HSL.out.1.1]; omega); have h9 := HR.out
                unfold keptX keptXD
                rw [e9]; refine ⟨h9.box, h9.dl, h9.q, h9.chs, h9.mv, h9.low, h9.bods, h9.ds.mono ?_⟩; rw [Nat.add_mul]
                omega
              clear HR; go_wp2; go_roundw
              case rel => exact ⟨p + 1, hpl, by go_num, by rw [← hs]; go_num, HN.out⟩
              case measure => simp [intOf]; omega
          · obtain rfl : pn = p := by omega
            have hpI : ¬ (pn : Int) < (pn : Int) := by omega
            have HN : Hid (CrSt w wr B d M (crashP C (M.queue.take (k + 1)) 0 (ms.map Bd.tell)) (M.N + totk (M.queue.take (k + 1))) (crashD C (M.queue.take (k + 1)) 0 M.SD) ∧ npsum (M.queue.take (k + 1)) = s) := by
              rw [HTK.out, crashP_snoc, crashD_snoc, totk_snoc, npsum_snoc, Nat.zero_add, hpn, HE.out.2.2.2, ← Nat.add_assoc, ← HE.out.2.2.1, ← HE.out.1, ← HE.out.2.1]; exact ⟨HR.out, hs⟩
            clear HR hs; go_wp2; go_roundw
            case rel => exact ⟨k + 1, hlt, by go_num, by rw [HN.out.2], HN.out.1⟩
            case measure => simp [intOf]; omega
      · skip
        have hp0 : pieceF x = 132 := by simp [pieceF, hkd]
        have hf0 : Hid (keptF x = 129) := by show _ = _; simp [keptF, hkd]
        have HC : Hid (Calls _ _ _ _ _) := pieces_any x B wr (HR.out.chs x hxm); rw [hp0, hpn] at HC
        have cq : wr.cell? ⟨ga, k, none⟩ = some (.iface 151 (.pointer (some ⟨x.c, 0, none⟩))) := by
          have h9 : x.cell = .iface 151 (.pointer (some ⟨x.c, 0, none⟩)) := by simp [Ch.cell, hkd]
          rw [← h9]; have h8 := HR.out.q; rw [HQ.out.1, HQ.out.2] at h8; exact own1_at h8 (by simp [hx])
        clear hkd hp0; go_wp2_with fail; refine HC.out.mono ?_; rintro e w1 ⟨rfl, hg1⟩; have HR1 : Hid (CrSt w w1 B d M P0 N0 D0) := HR.out.grown HD.out hg1; clear HC hg1 HR cq; go_wp2
        go_loopw [4, 21] (fun pv iv wi => ∃ p, p ≤ pn ∧ iv = .int .i64 (p : Int) ∧ pv = .int .i64 ((sn + p : Nat) : Int) ∧ CrSt w wi B d M (keptX C x sn p P0) (N0 + p * x.bs.length) (keptXD C x sn p D0)) (fun _ i _ => pn - (intOf i).toNat)
        case atStart => exact ⟨0, Nat.zero_le _, rfl, by first | rfl | (simp; done) | go_num, by rw [Nat.zero_mul]; exact HR1.out⟩
        case round =>
          obtain ⟨p, hp, rfl, rfl, hst⟩ := hrel; have HR : Hid (CrSt w wr B d M (keptX C x sn p P0) (N0 + p * x.bs.length) (keptXD C x sn p D0)) := hst; clear hst HR1; obtain ⟨s, hs⟩ : ∃ y, sn + p = y := ⟨_, rfl⟩; rw [hs]; have v2 : IntKind.i64.wrap ((s : Int) + 1) = (s : Int) + 1 := IntWalk.i64_in _ (by omega); have v3 : IntKind.i64.wrap ((p : Int) + 1) = (p : Int) + 1 := IntWalk.i64_in _ (by omega)
          by_cases hpl : p < pn
          · have hpI : (p : Int) < (pn : Int) := by omega
            by_cases hcl : s < cn
            · have hcI : (s : Int) < (cn : Int) := by omega
              obtain ⟨ch, hch⟩ : ∃ y, C.getD s 0 = y := ⟨_, rfl⟩; obtain ⟨cb, co, hca, hcs⟩ := HSL.out.1.2.2 (by omega); obtain rfl := hca
              have HCH : Hid (C[sn + p]? = some ch ∧ ch < 256) := by
                have hl : s < C.length := by rw [HSL.out.1.1]; exact hcl
                have e9 : C[s]? = some ch := by rw [← hch, List.getD_eq_getElem?_getD, List.getElem?_eq_getElem hl]; rfl
                refine ⟨by rw [hs]; exact e9, HSL.out.1.2.1 ch (List.mem_of_getElem? e9)⟩
              have HCC : Hid (w.cell? ⟨cb, co + s, none⟩ = some (.int .u8 (ch : Int))) := by show _ = _; rw [← hch]; exact hcs s hcl
              have HB8 : Hid (wr.heap[d]? = some (.cells #[.map (some M.lb), .map (some M.sb), .slice (some ⟨ga, 0, none⟩) qn qc, .int .i64 M.cap, .int .i64 M.fuse, .bool M.off, .int .i64 M.cnt] 90 (0, 0)) ∧ wr.cell? ⟨cb, co + s, none⟩ = some (.int .u8 (ch : Int))) := by
                refine ⟨?_, ?_⟩
                · have h8 := HR.out.box; rw [Dk.box, HQ.out.1] at h8; exact h8
                · exact (World.cell?_of_block (w := w) (a := ⟨cb, co + s, none⟩) (HR.out.low cb (HSL.out.2 cb co rfl))).trans HCC.out
              have HCALL : Hid (∀ X : World, wr.grownBy X none → Calls Tryz.prog 129 #[.pointer (some ⟨x.c, 0, none⟩), .map (some M.sb), .int .i64 (p : Int), .int .u8 (ch : Int)] X fun e w' => e = .returned (.tuple #[]) ∧ CrSt w w' B d M (keptP x p ch (keptX C x sn p P0)) (N0 + p * x.bs.length + x.bs.length) (keptD x ch (keptXD C x sn p D0))) := fun X hX => by
                rw [← hf0.out]; refine (HR.out.grown HD.out hX).piece HD.out (by rw [keptX_fst]; exact HP0.out.1) hxm (by rw [hpn]; exact hpl) HCH.out.2 ?_; have h9 := HP0.out.2; have h8 : (p + 1) * x.bs.length ≤ pn * x.bs.length := Nat.mul_le_mul_right _ (by omega); rw [hpn] at h9; rw [Nat.add_mul] at h8
                omega
              have HSS : Hid (sn + p = s) := hs; clear hcs hch HR hs
              go_upto_region 8 with fail
              refine wp_region_Z (fun Y => Y.heap[d]? = some (.cells #[.map (some M.lb), .map (some M.sb), .slice (some ⟨ga, 0, none⟩) qn qc, .int .i64 M.cap, .int .i64 M.fuse, .bool M.off, .int .i64 M.cnt] 90 (0, 0)) ∧ Y.cell? ⟨cb, co + s, none⟩ = some (.int .u8 (ch : Int))) (fun _ => false) (by kernel_rfl) ?_; have hS : wr.drew.heap[d]? = some (.cells #[.map (some M.lb), .map (some M.sb), .slice (some ⟨ga, 0, none⟩) qn qc, .int .i64 M.cap, .int .i64 M.fuse, .bool M.off, .int .i64 M.cnt] 90 (0, 0)) ∧ wr.drew.cell? ⟨cb, co + s, none⟩ = some (.int .u8 (ch : Int)) := HB8.out; refine zTk 0 ?_; simp only [Act.put, zq1, zq2, zq3]; refine zTk 1 ?_; simp only [Act.put, zq1, zq2, zq3]; refine zTk 2 ?_; simp only [Act.put, zq1, zq2, zq3]; refine zTk 3 ?_; simp only [Act.put, zq1, zq2, zq3]; refine zLs 4 rfl hS (by intro W hW; have c0 : W.cell? ⟨d, 1, none⟩ = some (.map (some M.sb)) := (zCr hW.1).trans rfl; go_simp; first | done | with_reducible rfl) ?_; simp only [Act.put, zq1, zq2, zq3]; refine zTk 5 ?_; simp only [Act.put, zq1, zq2, zq3]; refine zTk 6 ?_; simp only [Act.put, zq1, zq2, zq3]; refine zTk 7 ?_; simp only [Act.put, zq1, zq2, zq3]; refine zTk 8 ?_; simp only [Act.put, zq1, zq2, zq3]; refine zLs 9 rfl hS (by intro W hW; have c0 := hW.2; go_simp; first | done | with_reducible rfl) ?_; simp only [Act.put, zq1, zq2, zq3]; refine zTk 10 ?_; simp only [Act.put, zq1, zq2, zq3]; refine wpAnyZ_take' (i := 11) (v := ?vz38) rfl (by kernel_rfl) (by kernel_rfl) (by kernel_rfl) (fun _ _ _ h => h) (Or.inl ⟨by rfl, ?yz38⟩) ?rz38
              case yz38 => (intro w _; go_simp; simp only [Tryz.nilK3, Result.andThen]; rfl)
              simp only [Act.put, zq1, zq2, zq3]; refine zTk 12 ?_; simp only [Act.put, zq1, zq2, zq3]; clear hS; refine wpAnyZ_one' (i := 13) (by kernel_rfl) rfl (fun K hK => ?_); go_simp; rw [Tryz.methK3, Result.andThen_ok]; go_simp; go_at_call 129; refine (HCALL.out wr.drew (grownBy_drew (grownBy_refl _ _))).mono ?_; rintro e w5 ⟨rfl, hso⟩
              have hS5 : w5.heap[d]? = some (.cells #[.map (some M.lb), .map (some M.sb), .slice (some ⟨ga, 0, none⟩) qn qc, .int .i64 M.cap, .int .i64 M.fuse, .bool M.off, .int .i64 M.cnt] 90 (0, 0)) ∧ w5.cell? ⟨cb, co + s, none⟩ = some (.int .u8 (ch : Int)) := by
                refine ⟨?_, ?_⟩
                · have h8 := hso.box; rw [Dk.box, HQ.out.1] at h8; exact h8
                · exact (World.cell?_of_block (w := w) (a := ⟨cb, co + s, none⟩) (hso.low cb (HSL.out.2 cb co rfl))).trans HCC.out
              refine hK.out _ _ (fun _ _ => hS5) ?_; clear hK K hS5; (try simp only [Act.put, zq1, zq2, zq3])
              have HN : Hid (CrSt w w5 B d M (keptX C x sn (p + 1) P0) (N0 + (p + 1) * x.bs.length) (keptXD C x sn (p + 1) D0)) := by
                have e9 : C[sn + p]? = some ch := HCH.out.1
                unfold keptX keptXD
                rw [e9, show N0 + (p + 1) * x.bs.length = N0 + p * x.bs.length + x.bs.length by rw [Nat.add_mul]; omega]; exact hso
              clear hso HCALL HB8; refine wpAnyZ_done (by kernel_rfl) ?_ _; go_wp2; go_roundw
              case rel => exact ⟨p + 1, hpl, by go_num, by rw [show sn + (p + 1) = s + 1 by have := HSS.out; omega]; go_num, HN.out⟩
              case measure => simp [intOf]; omega
            · have hcI : ¬ (s : Int) < (cn : Int) := by omega
              have HN : Hid (CrSt w wr B d M (keptX C x sn (p + 1) P0) (N0 + (p + 1) * x.bs.length) (keptXD C x sn (p + 1) D0)) := by
                have e9 : C[sn + p]? = none := List.getElem?_eq_none (by rw [hs, HSL.out.1.1]; omega); have h9 := HR.out
                unfold keptX keptXD
                rw [e9]; refine ⟨h9.box, h9.dl, h9.q, h9.chs, h9.mv, h9.low, h9.bods, h9.ds.mono ?_⟩; rw [Nat.add_mul]
                omega
              clear HR; go_wp2; go_roundw
              case rel => exact ⟨p + 1, hpl, by go_num, by rw [← hs]; go_num, HN.out⟩
              case measure => simp [intOf]; omega
          · obtain rfl : pn = p := by omega
            have hpI : ¬ (pn : Int) < (pn : Int) := by omega
            have HN : Hid (CrSt w wr B d M (crashP C (M.queue.take (k + 1)) 0 (ms.map Bd.tell)) (M.N + totk (M.queue.take (k + 1))) (crashD C (M.queue.take (k + 1)) 0 M.SD) ∧ npsum (M.queue.take (k + 1)) = s) := by
              rw [HTK.out, crashP_snoc, crashD_snoc, totk_snoc, npsum_snoc, Nat.zero_add, hpn, HE.out.2.2.2, ← Nat.add_assoc, ← HE.out.2.2.1, ← HE.out.1, ← HE.out.2.1]; exact ⟨HR.out, hs⟩
            clear HR hs; go_wp2; go_roundw
            case rel => exact ⟨k + 1, hlt, by go_num, by rw [HN.out.2], HN.out.1⟩
            case measure => simp [intOf]; omega
    · obtain rfl : qn = k := by omega
      have hkI : ¬ (qn : Int) < (qn : Int) := by omega
      have e1 : M.queue.take qn = M.queue := List.take_of_length_le (by rw [HQ.out.2]; exact Nat.le_refl _); rw [e1] at hst; obtain ⟨P1, N1, D1, HE⟩ : ∃ P1 N1 D1, Hid (P1 = crashP C M.queue 0 (ms.map Bd.tell) ∧ N1 = M.N + totk M.queue ∧ D1 = crashD C M.queue 0 M.SD) := ⟨_, _, _, rfl, rfl, rfl⟩
      have HR : Hid (CrSt w wr B d M P1 N1 D1) := by rw [HE.out.1, HE.out.2.1, HE.out.2.2]; exact hst
      have hbx := hst.box; rw [Dk.box, HQ.out.1] at hbx
      have hN1 : N1 ≤ 1000000 := by rw [HE.out.2.1]; exact HNN.out
      have c0 : wr.cell? ⟨d, 0, none⟩ = some (.map (some M.lb)) := (zCr hbx).trans rfl; have hdl : d < wr.heap.size := (Array.getElem?_eq_some_iff.1 hbx).1
      have kf0 : wr.frozen? ⟨d, 0, none⟩ = false := by simp [World.frozen?, hbx]
      have HB12 : Hid (((wr.setCell ⟨d, 0, none⟩ (.map (some wr.heap.size))).alloc (.map #[] 0)).heap[d]? = some (.cells #[.map (some wr.heap.size), .map (some M.sb), .slice qa qn qc, .int .i64 M.cap, .int .i64 M.fuse, .bool M.off, .int .i64 M.cnt] 90 (0, 0))) := (heap_alloc_old (wr.setCell ⟨d, 0, none⟩ (.map (some wr.heap.size))) _ (by simpa using hdl)).trans ((heap_setCell_same wr d 0 _ _ _ hbx).trans rfl); have c1 : ((wr.setCell ⟨d, 0, none⟩ (.map (some wr.heap.size))).alloc (.map #[] 0)).cell? ⟨d, 1, none⟩ = some (.map (some M.sb)) := (zCr HB12.out).trans rfl; have HT12 : Hid (Turn (fun k => k = d) wr ((wr.setCell ⟨d, 0, none⟩ (.map (some wr.heap.size))).alloc (.map #[] 0))) := ((Turn.refl (fun k => k = d) wr).set (a := ⟨d, 0, none⟩) (show d = d from rfl) _).trans (Turn.of_grown (T := fun k => k = d) (World.grownBy_alloc (wr.setCell ⟨d, 0, none⟩ (.map (some wr.heap.size))) _ none) (by simp))
      have HN12 : Hid (NMap ((wr.setCell ⟨d, 0, none⟩ (.map (some wr.heap.size))).alloc (.map #[] 0)) M.sb N1 D1) := by
        obtain ⟨es, ck, h1, h2⟩ := HR.out.ds; exact ⟨es, ck, HT12.out.blk h1 (fun hc => by rw [hc, hbx] at h1; cases h1), h2⟩
      have hmm := @run_makeMap Tryz.prog; have HBX : Hid (wr.heap[d]? = some (.cells #[.map (some M.lb), .map (some M.sb), .slice qa qn qc, .int .i64 M.cap, .int .i64 M.fuse, .bool M.off, .int .i64 M.cnt] 90 (0, 0))) := hbx; clear hst e1 c2 hbx hk
      go_wp2_with (first | (at_range; refine wpList_range_own _ rfl _ 87 rfl 9 91 keyS undMap ptrE M.sb N1 D1 rfl HN12.out ?_; intro w0 hrg0 hg0 hs0))
      have hr0 : ((wr.setCell ⟨d, 0, none⟩ (.map (some wr.heap.size))).alloc (.map #[] 0)).heap.size = wr.heap.size + 1 := by simp
      rw [hr0] at hrg0; obtain ⟨lb, hlb⟩ : ∃ y, wr.heap.size = y := ⟨_, rfl⟩
      have HCL : Hid (ClSt w w0 B d M lb (lb + 1) N1 P1 D1 (has D1) (Maps.size D1)) := by
        rw [← hlb]; have hMd : Moves [] [90] wr ((wr.setCell ⟨d, 0, none⟩ (.map (some wr.heap.size))).alloc (.map #[] 0)) := Moves.of_turn HT12.out (fun k _ hk => .inr (by obtain rfl : k = d := hk; exact ⟨_, _, _, HBX.out, by simp⟩)); have hM0 : Moves [] [90] wr w0 := hMd.trans (Moves.of_grown0 hg0); obtain ⟨ms2, b1, b2⟩ := HR.out.bods; have hBw := HD.out.sizeB; have hws := HR.out.mv.size; refine ⟨hrg0, ?_, ⟨0, .map [], ?_, ?_, agree_start D1⟩, ⟨ms2, fun _ => false, b1.moves hM0 (by decide) (by decide) (by simp), ?_, ?_, ?_⟩, ?_, ?_, ?_, ?_, ?_⟩
        · have h9 := grown_blk hg0 HB12.out; rw [Dk.box, HQ.out.1]; exact h9
        · have h9 := World.ownsMap_made (wr.setCell ⟨d, 0, none⟩ (.map (some wr.heap.size))) Tryz.prog 9 ptrE; rw [show (wr.setCell ⟨d, 0, none⟩ (.map (some wr.heap.size))).heap.size = wr.heap.size by simp] at h9; exact h9.kept hg0 (by simp)
        · obtain ⟨es, ck, sc, se, c9, -, -, h8, -, -, -, h9, -⟩ := hrg0; rw [Nat.zero_add, ← h9]; exact Nat.le_trans (Array.size_filter_le) h8
        · rw [b2, clP]
          simp
        · intro kl b h1 h2; rw [h1] at h2
          cases h2
        · intro b hb
          cases hb
        · exact (HR.out.mv.wide (by simp) (by intro t ht; simp only [List.mem_cons, List.not_mem_nil, or_false] at ht; rcases ht with h | h <;> simp [h])).trans (hM0.wide (by simp) (by intro t ht; simp only [List.mem_cons, List.not_mem_nil, or_false] at ht; simp [ht]))
        · intro k hk; refine (hg0.block k ?_ (by simp)).trans ((HT12.out.block k (by omega) ?_).trans (HR.out.low k hk))
          · have := HT12.out.size; omega
          · have := HD.out.low.2.2; show ¬ k = d; omega
        · omega
        · omega
        · omega
      have HRF : Hid (∀ ms2 v, ms2.map Bd.tell = clP v P1 → DRef ms2 D1) := fun ms2 v h2 => by
        have h3 := (DRef.crash (C := C) M.queue 0 HD.out.refS HD.out.ds.isMap HD.out.refs).1; rw [← HE.out.2.2] at h3; refine h3.to (fun b hb => has_of_tell ?_ hb); rw [h2, clP_fst, HE.out.1, crashP_fst]
      clear hrg0 hg0 hs0 hr0 HB12 HT12 HN12 HBX HR c0 kf0 c1 hmm hdl; rw [hlb]
      try go_frame
      go_loopw [8] (fun _ wi => ∃ left cnt, ClSt w wi B d M lb (lb + 1) N1 P1 D1 left cnt) (fun _ wi => wi.rangeLeft M.sb (lb + 1))
      case atStart => exact ⟨_, _, HCL.out⟩
      case round =>
        obtain ⟨left, cnt, hcl⟩ := hrel; have HC : Hid (ClSt w wr B d M lb (lb + 1) N1 P1 D1 left cnt) := hcl; clear hcl HCL
        go_wp2_with (at_next; refine wpList_next_ranges _ rfl _ rfl 9 keyS ptrE Value.string bP (fun key kl hk9 => Maps.keyOf_string_inv Tryz.underlying9 hk9) (fun v y hv9 => by obtain ⟨ob, rfl, -⟩ := ptrE_inv hv9; exact ⟨ob, rfl⟩) M.sb (lb + 1) N1 D1 left cnt rfl HC.out.rg ?dn ?mr)
        case dn =>
          intro hc0 hl0; have HL : Hid ((∀ kl, left kl = false) ∧ cnt = 0) := ⟨hl0, hc0⟩
          have HB : Hid (wr.heap[d]? = some (.cells #[.map (some lb), .map (some M.sb), .slice qa qn qc, .int .i64 M.cap, .int .i64 M.fuse, .bool M.off, .int .i64 M.cnt] 90 (0, 0))) := by
            have h9 := HC.out.box; rw [Dk.box, HQ.out.1] at h9; exact h9
          have d2 : wr.cell? ⟨d, 2, none⟩ = some (.slice qa qn qc) := (zCr HB.out).trans rfl; have d4 : wr.cell? ⟨d, 4, none⟩ = some (.int .i64 M.fuse) := (zCr HB.out).trans rfl; have d5 : wr.cell? ⟨d, 5, none⟩ = some (.bool M.off) := (zCr HB.out).trans rfl
          have f2 : wr.frozen? ⟨d, 2, none⟩ = false := by simp [World.frozen?, HB.out]
          have f4 : wr.frozen? ⟨d, 4, none⟩ = false := by simp [World.frozen?, HB.out]
          have f5 : wr.frozen? ⟨d, 5, none⟩ = false := by simp [World.frozen?, HB.out]
          clear hl0 hc0; go_wp2; refine bodyPost_end (results_none rfl _ _ _) rfl ⟨rfl, ?_⟩; obtain ⟨ms', v, g1, g2, g3, g4, g5⟩ := HC.out.fin HD.out HL.out.1 HRF.out; have hE := HE.out; obtain ⟨rfl, rfl, rfl⟩ := hE; exact ⟨ms', lb, v, g1, g2, g3, g4, g5⟩
        case mr =>
          intro x ob kl y1 y2 w1 cnt1 hkey hlk hv hat hrg hlt1 hg1 hs1 hen; obtain ⟨ms2, v, b1, b2, b3, b4⟩ := HC.out.bods; obtain ⟨n2, L2, m1, m2, m3⟩ := HC.out.new
          have hmk : ∀ z, ptrE (bP ob) = some z → z = (bD ob, []) := fun z hz => by rw [ptrE_mk] at hz; exact (Option.some.inj hz).symm
          have hy := hmk _ hv; obtain ⟨rfl, -⟩ := Prod.mk.inj hy
          have hob : ∃ b, ob = some b := by
            cases ob with
            | some b => exact ⟨b, rfl⟩
            | none =>
              have h9 := (HRF.out ms2 v b2).2 kl (.lit (.int .i64 0)) (hat _)
              cases h9
          obtain ⟨b, rfl⟩ := hob; obtain ⟨m, hm, hmb⟩ := ((HRF.out ms2 v b2).1 kl b (hat .nil)).get; subst hmb; obtain ⟨es, ck, sc0, se, c9, -, -, -, -, q2, -⟩ := HC.out.rg; have b1' : Bods w1 B ms2 := b1.turn (Turn.of_grown (T := fun k => k = lb + 1) hg1 (fun g hg => by cases hg; rfl)) (fun k hk cur t f hc => by obtain rfl : k = lb + 1 := hk; rw [q2] at hc; cases hc); have hm1 := (b1'.each m hm).1; obtain ⟨sa, sc, hsv, hsl⟩ := hm1.syn.sl; obtain ⟨la, lc, hlv, -⟩ := hm1.live.is; obtain ⟨sn, hsn⟩ : ∃ y, m.S.length = y := ⟨_, rfl⟩; obtain ⟨ln, hln⟩ : ∃ y, m.L.length = y := ⟨_, rfl⟩; rw [hsn] at hsv hsl; rw [hln] at hlv
          have hbx1 : w1.heap[m.b]? = some (.cells #[.slice la ln lc, .slice sa sn sc, .int .i64 m.k] 93 (0, 0)) := by rw [hm1.box, Bd.blk, hlv, hsv]
          have hsz1 : B ≤ w1.heap.size := Nat.le_trans HD.out.sizeB (Nat.le_trans HC.out.mv.size hg1.size); have HCLN : Hid (Calls _ _ _ _ _) := clone_any sa sn sc m.S B w1 hsl (by rw [← hsn]; have := (b1'.each m hm).2.2; omega) hsz1; have c1 : w1.cell? ⟨m.b, 1, none⟩ = some (.slice sa sn sc) := (zCr hbx1).trans rfl; have HX : Hid (w1.heap[m.b]? = some (.cells #[.slice la ln lc, .slice sa sn sc, .int .i64 m.k] 93 (0, 0)) ∧ _ ∧ _ ∧ _ ∧ _ ∧ _ ∧ _ ∧ _ ∧ _ ∧ _ ∧ _ ∧ _ ∧ _ ∧ _) := ⟨hbx1, hat, hrg, hlt1, hg1, b1, b2, b3, b4, hm, m3, m2, m1, hkey⟩
          have HNM : Hid (n2 < maxLen) := by show n2 < maxLen; unfold maxLen; omega
          have HDB : Hid (d ≠ m.b ∧ d ≠ lb + 1 ∧ lb ≠ m.b ∧ wr.heap[d]? = some (.cells #[.map (some lb), .map (some M.sb), .slice qa qn qc, .int .i64 M.cap, .int .i64 M.fuse, .bool M.off, .int .i64 M.cnt] 90 (0, 0))) := by
            have hbd : wr.heap[d]? = some (.cells #[.map (some lb), .map (some M.sb), .slice qa qn qc, .int .i64 M.cap, .int .i64 M.fuse, .bool M.off, .int .i64 M.cnt] 90 (0, 0)) := by
              have h9 := HC.out.box; rw [Dk.box, HQ.out.1] at h9; exact h9
            refine ⟨fun hc => ?_, fun hc => ?_, fun hc => ?_, hbd⟩
            · rw [hc, (b1.each m hm).1.box] at hbd; have h8 := Option.some.inj hbd
              injection h8 with _ h7 _
              exact absurd h7 (by decide)
            · rw [hc, q2] at hbd; cases hbd
            · obtain ⟨es2, ck2, q3, -⟩ := m1; rw [hc, (b1.each m hm).1.box] at q3
              cases q3
          clear hv hat hrg hlt1 hg1 hs1 b1 b2 b3 b4 m1 m2 m3 hmk hy hm q2 b1' hm1 hsv hsl hlv hsn hln hbx1 hsz1 hkey hlk; simp only [bP] at hen ⊢; go_wp2_with fail; refine HCLN.out.mono ?_; rintro e w2 ⟨v2, rfl, r1, r2, r3⟩; obtain ⟨oa2, cap2, hv2e, -⟩ := r1.is; obtain ⟨sn2, hsn2⟩ : ∃ y, m.S.length = y := ⟨_, rfl⟩; rw [hsn2] at hv2e; subst hv2e; have hbx2 := grown_blk r2 HX.out.1; have k0 : w2.cell? ⟨m.b, 0, none⟩ = some (.slice la ln lc) := (zCr hbx2).trans rfl
          have kf0 : w2.frozen? ⟨m.b, 0, none⟩ = false := by simp [World.frozen?, hbx2]
          have HR3 : Hid (BRow w2 B (.slice oa2 sn2 cap2) m.S ∧ w1.grownBy w2 none ∧ ∀ g, rowBlk (.slice oa2 sn2 cap2) = some g → w1.heap.size ≤ g) := ⟨r1, r2, r3⟩
          have HD3 : Hid ((w2.setCell ⟨m.b, 0, none⟩ (.slice oa2 sn2 cap2)).heap[d]? = some (.cells #[.map (some lb), .map (some M.sb), .slice qa qn qc, .int .i64 M.cap, .int .i64 M.fuse, .bool M.off, .int .i64 M.cnt] 90 (0, 0)) ∧ NMap (w2.setCell ⟨m.b, 0, none⟩ (.slice oa2 sn2 cap2)) lb n2 L2) := by
            obtain ⟨n1, n3, n4, hbd⟩ := HDB.out; refine ⟨?_, ?_⟩
            · have e1 := (HX.out.2.2.2.2.1.block d (Array.getElem?_eq_some_iff.1 hbd).1 (by simpa using n3)).trans hbd; exact (heap_setCell_other w2 ⟨m.b, 0, none⟩ d _ n1).trans (grown_blk r2 e1)
            · have e1 := (HX.out.2.2.2.2.2.2.2.2.2.2.2.2.1.kept HX.out.2.2.2.2.1 (by simp)).kept r2 (by simp); obtain ⟨es2, ck2, q3, q4⟩ := e1; exact ⟨es2, ck2, (heap_setCell_other w2 ⟨m.b, 0, none⟩ lb _ n4).trans q3, q4⟩
          have c3 : (w2.setCell ⟨m.b, 0, none⟩ (.slice oa2 sn2 cap2)).cell? ⟨d, 0, none⟩ = some (.map (some lb)) := (zCr HD3.out.1).trans rfl; clear r1 r2 r3 hbx2 HCLN c1 hen hsn2
          go_wp2_with (at_mapUpdate; refine wpList_mapUpdate_own _ rfl _ _ _ 87 rfl 9 91 keyS undMap ptrE lb n2 L2 rfl HD3.out.2 HNM.out _ _ _ rfl rfl HX.out.2.2.2.2.2.2.2.2.2.2.2.2.2 _ [] (ptrE_mk (some m.b)) ?_; intro w4 h4 hT4)
          have HN : Hid (ClSt w w4 B d M lb (lb + 1) N1 P1 D1 (fun z => left z && !z.sameKey kl) cnt1 ∧ cnt1 < cnt) := by
            obtain ⟨-, hat, hrg, hlt1, hg1, b1, b2, b3, b4, hm, m3, m2, m1, hkey⟩ := HX.out; exact ⟨HC.out.round HD.out (keyS.key hkey) hat hrg hlt1 hg1 b1 b2 b3 b4 hm HR3.out.2.1 HR3.out.1 HR3.out.2.2 m3 m2 m1 h4 hT4, hlt1⟩
          clear h4 hT4; go_wp2; (try simp only [Act.put]); go_roundw
          case rel => exact ⟨_, _, HN.out.1⟩
          case measure =>
            have e1 := HN.out.1.rg.left_eq; have e2 := HC.out.rg.left_eq; have e3 := HN.out.2
            first | omega | (simp only []; omega) | (rw [e1, e2]; exact e3)
theorem boundCap_any (n : Int) (w : World) : Calls Tryz.prog 45 #[.int .i64 n] w fun e w' => e = .returned (.int .i64 (min (max n 0) 262144)) ∧ w' = w := by
  go_enter Tryz.func45, Tryz.ntmps45
  go_wp2
  all_goals
    go_ret; refine ⟨?_, rfl⟩
    show Ending.returned (.int .i64 _) = Ending.returned (.int .i64 _)
    congr 2
    omega
theorem run_look {W : World} {b n : Nat} {D : DataW Unit} {s : ByteArray} {ob : Option Nat} (h : NMap W b n D) (hs : s.size ≤ maxLen) (ho : D.atKey (kS s) .nil = bD ob) : (Instr.lookup 87 (.map (some b)) (.string s) false).run Tryz.prog W = .ok (bP ob) W := by
  obtain ⟨v, ps, hrun, hv⟩ := h.lookup keyS undMap (zeroP W) (ptrE_mk none) (keyOfS hs); obtain ⟨ob', rfl, hz⟩ := ptrE_inv hv; have h1 : D.atKey (kS s) .nil = bD ob' := congrArg Prod.fst hz; obtain rfl : ob = ob' := bD_inj (ho.symm.trans h1); exact hrun
def SyncDone (w w' : World) (B d : Nat) (M : Dk) (ms : List Bd) (o : Option Nat) : Prop := ∃ ms' qv', DkAt w' B d { M with N := M.N + tots M.queue, SD := syncsD o M.queue M.SD, qv := qv', queue := M.queue.filter (fun x => !(mineC o x)) } ms' ∧ ms'.map Bd.tell = syncsP o M.queue (ms.map Bd.tell) ∧ Moves [M.sb] [93, 5, 90] w w' ∧ ∀ k, k < B → w'.heap[k]? = w.heap[k]?
set_option maxRecDepth 20000 in
set_option maxHeartbeats 2000000 in
theorem carrySyncDir_any (d : Nat) (a : Int) (nm tn : ByteArray) (da : Option Addr) (dn dc : Nat) (M : Dk) (ms : List Bd) (B : Nat) (ob : Option Nat) (w : World) (h : DkAt w B d M ms) (hs : nm.size ≤ maxLen) (hob : M.LD.atKey (kS nm) .nil = bD ob) (hq : M.queue.length ≤ 100000) (hN : M.N + tots M.queue ≤ 1000000) :
    Calls Tryz.prog 56 #[.pointer (some ⟨d, 0, none⟩), .agg #[.int .i64 7, .int .i64 a, .string nm, .string tn, .slice da dn dc]] w fun e w' => e = .returned (.tuple #[]) ∧ SyncDone w w' B d M ms none := by
  have hg0 : w.grownBy (w.alloc (.cells #[.int .i64 7, .int .i64 a, .string nm, .string tn, .slice da dn dc] 33)).drew none := grownBy_drew (World.grownBy_alloc w _ none); have HC : Hid (Calls _ _ _ _ _) := sync_any none d M ms B (w.alloc (.cells #[.int .i64 7, .int .i64 a, .string nm, .string tn, .slice da dn dc] 33)).drew (h.grown0 hg0) hq hN (by simp); simp only [bP] at HC; have hdw : d < w.heap.size := (Array.getElem?_eq_some_iff.1 h.box).1
  have c0 : w.cell? ⟨d, 0, none⟩ = some (.map (some M.lb)) := by
    have h8 := h.box; rw [Dk.box] at h8; exact (zCr h8).trans rfl
  have HM : Hid (NMap w M.lb M.N M.LD) := h.dl; have HG0 : Hid (w.grownBy (w.alloc (.cells #[.int .i64 7, .int .i64 a, .string nm, .string tn, .slice da dn dc] 33)).drew none ∧ B ≤ w.heap.size) := ⟨hg0, h.sizeB⟩; clear h hg0
  go_enter Tryz.func56, Tryz.ntmps56
  go_upto_region 1 with fail
  refine wp_region_Z (fun Y => Y.cell? ⟨d, 0, none⟩ = some (.map (some M.lb)) ∧ Y.cell? ⟨w.heap.size, 2, none⟩ = some (.string nm) ∧ NMap Y M.lb M.N M.LD) (fun _ => false) (by kernel_rfl) ?_; have hX : (w.alloc (.cells #[.int .i64 7, .int .i64 a, .string nm, .string tn, .slice da dn dc] 33)).heap[w.heap.size]? = some (.cells #[.int .i64 7, .int .i64 a, .string nm, .string tn, .slice da dn dc] 33 (0, 0)) := heap_alloc_new w _
  have hS : (w.alloc (.cells #[.int .i64 7, .int .i64 a, .string nm, .string tn, .slice da dn dc] 33)).drew.cell? ⟨d, 0, none⟩ = some (.map (some M.lb)) ∧ (w.alloc (.cells #[.int .i64 7, .int .i64 a, .string nm, .string tn, .slice da dn dc] 33)).drew.cell? ⟨w.heap.size, 2, none⟩ = some (.string nm) ∧ NMap (w.alloc (.cells #[.int .i64 7, .int .i64 a, .string nm, .string tn, .slice da dn dc] 33)).drew M.lb M.N M.LD := by
    refine ⟨?_, (zCr hX).trans rfl, HM.out.alloc _⟩; exact (World.cell?_of_block (w := w) (a := ⟨d, 0, none⟩) (heap_alloc_old w _ hdw)).trans c0
  refine zTk 0 ?_; simp only [Act.put, zq1, zq2, zq3]; refine zTk 1 ?_; simp only [Act.put, zq1, zq2, zq3]; refine zTk 2 ?_; simp only [Act.put, zq1, zq2, zq3]; refine zLs 3 rfl hS (by intro W hW; have c0 := hW.1; go_simp; first | done | with_reducible rfl) ?_; simp only [Act.put, zq1, zq2, zq3]; refine zTk 4 ?_; simp only [Act.put, zq1, zq2, zq3]; refine zLs 5 rfl hS (by intro W hW; have c0 := hW.2.1; go_simp; first | done | with_reducible rfl) ?_; simp only [Act.put, zq1, zq2, zq3]; refine zLs 6 rfl hS (by intro W hW; have c0 := run_look hW.2.2 hs hob; go_simp; first | done | with_reducible rfl) ?_; simp only [Act.put, zq1, zq2, zq3]; refine zTk 7 ?_; simp only [Act.put, zq1, zq2, zq3]; refine wpAnyZ_done (by kernel_rfl) ?_ _; have kk : (w.alloc (.cells #[.int .i64 7, .int .i64 a, .string nm, .string tn, .slice da dn dc] 33)).drew.cell? ⟨w.heap.size, 0, none⟩ = some (.int .i64 7) := (zCr hX).trans rfl; clear hS hX c0; go_wp2_with fail; refine HC.out.mono ?_; rintro e w1 ⟨rfl, ms1, qv1, g1, g2, g3, g4⟩; have HF : Hid (SyncDone w w1 B d M ms none) := ⟨ms1, qv1, g1, g2, (Moves.of_grown0 HG0.out.1).trans g3, fun k hk => (g4 k hk).trans (HG0.out.1.block k (Nat.lt_of_lt_of_le hk HG0.out.2) (by simp))⟩; clear HC g1 g2 g3 g4; go_wp2; refine bodyPost_end (results_none rfl _ _ _) rfl ⟨rfl, HF.out⟩
set_option maxRecDepth 20000 in
set_option maxHeartbeats 2000000 in
theorem carrySync_any (d : Nat) (a : Int) (nm tn : ByteArray) (da : Option Addr) (dn dc : Nat) (M : Dk) (ms : List Bd) (B : Nat) (ob : Option Nat) (m : Bd) (w : World) (h : DkAt w B d M ms) (hs : nm.size ≤ maxLen) (hob : M.LD.atKey (kS nm) .nil = bD ob) (hq : M.queue.length ≤ 100000) (hN : M.N + tots M.queue ≤ 1000000) (hm : m ∈ ms) (hmo : ob = some m.b) :
    Calls Tryz.prog 56 #[.pointer (some ⟨d, 0, none⟩), .agg #[.int .i64 6, .int .i64 a, .string nm, .string tn, .slice da dn dc]] w fun e w' => e = .returned (.tuple #[]) ∧ SyncDone w w' B d M ms (some m.b) := by
  have hg0 : w.grownBy (w.alloc (.cells #[.int .i64 6, .int .i64 a, .string nm, .string tn, .slice da dn dc] 33)).drew none := grownBy_drew (World.grownBy_alloc w _ none); subst hmo; have HC : Hid (Calls _ _ _ _ _) := sync_any (some m.b) d M ms B (w.alloc (.cells #[.int .i64 6, .int .i64 a, .string nm, .string tn, .slice da dn dc] 33)).drew (h.grown0 hg0) hq hN (fun b hb => by cases hb; exact List.mem_map_of_mem hm); simp only [bP] at HC; have hdw : d < w.heap.size := (Array.getElem?_eq_some_iff.1 h.box).1
  have c0 : w.cell? ⟨d, 0, none⟩ = some (.map (some M.lb)) := by
    have h8 := h.box; rw [Dk.box] at h8; exact (zCr h8).trans rfl
  have HM : Hid (NMap w M.lb M.N M.LD) := h.dl; have HG0 : Hid (w.grownBy (w.alloc (.cells #[.int .i64 6, .int .i64 a, .string nm, .string tn, .slice da dn dc] 33)).drew none ∧ B ≤ w.heap.size) := ⟨hg0, h.sizeB⟩; clear h hg0
  go_enter Tryz.func56, Tryz.ntmps56
  go_upto_region 1 with fail
  refine wp_region_Z (fun Y => Y.cell? ⟨d, 0, none⟩ = some (.map (some M.lb)) ∧ Y.cell? ⟨w.heap.size, 2, none⟩ = some (.string nm) ∧ NMap Y M.lb M.N M.LD) (fun _ => false) (by kernel_rfl) ?_; have hX : (w.alloc (.cells #[.int .i64 6, .int .i64 a, .string nm, .string tn, .slice da dn dc] 33)).heap[w.heap.size]? = some (.cells #[.int .i64 6, .int .i64 a, .string nm, .string tn, .slice da dn dc] 33 (0, 0)) := heap_alloc_new w _
  have hS : (w.alloc (.cells #[.int .i64 6, .int .i64 a, .string nm, .string tn, .slice da dn dc] 33)).drew.cell? ⟨d, 0, none⟩ = some (.map (some M.lb)) ∧ (w.alloc (.cells #[.int .i64 6, .int .i64 a, .string nm, .string tn, .slice da dn dc] 33)).drew.cell? ⟨w.heap.size, 2, none⟩ = some (.string nm) ∧ NMap (w.alloc (.cells #[.int .i64 6, .int .i64 a, .string nm, .string tn, .slice da dn dc] 33)).drew M.lb M.N M.LD := by
    refine ⟨?_, (zCr hX).trans rfl, HM.out.alloc _⟩; exact (World.cell?_of_block (w := w) (a := ⟨d, 0, none⟩) (heap_alloc_old w _ hdw)).trans c0
  refine zTk 0 ?_; simp only [Act.put, zq1, zq2, zq3]; refine zTk 1 ?_; simp only [Act.put, zq1, zq2, zq3]; refine zTk 2 ?_; simp only [Act.put, zq1, zq2, zq3]; refine zLs 3 rfl hS (by intro W hW; have c0 := hW.1; go_simp; first | done | with_reducible rfl) ?_; simp only [Act.put, zq1, zq2, zq3]; refine zTk 4 ?_; simp only [Act.put, zq1, zq2, zq3]; refine zLs 5 rfl hS (by intro W hW; have c0 := hW.2.1; go_simp; first | done | with_reducible rfl) ?_; simp only [Act.put, zq1, zq2, zq3]; refine zLs 6 rfl hS (by intro W hW; have c0 := run_look hW.2.2 hs hob; go_simp; first | done | with_reducible rfl) ?_; simp only [Act.put, zq1, zq2, zq3]; refine zTk 7 ?_; simp only [Act.put, zq1, zq2, zq3]; refine wpAnyZ_done (by kernel_rfl) ?_ _; have kk : (w.alloc (.cells #[.int .i64 6, .int .i64 a, .string nm, .string tn, .slice da dn dc] 33)).drew.cell? ⟨w.heap.size, 0, none⟩ = some (.int .i64 6) := (zCr hX).trans rfl; clear hS hX c0; go_wp2_with fail; refine HC.out.mono ?_; rintro e w1 ⟨rfl, ms1, qv1, g1, g2, g3, g4⟩; have HF : Hid (SyncDone w w1 B d M ms (some m.b)) := ⟨ms1, qv1, g1, g2, (Moves.of_grown0 HG0.out.1).trans g3, fun k hk => (g4 k hk).trans (HG0.out.1.block k (Nat.lt_of_lt_of_le hk HG0.out.2) (by simp))⟩; clear HC g1 g2 g3 g4; go_wp2; refine bodyPost_end (results_none rfl _ _ _) rfl ⟨rfl, HF.out⟩
set_option maxRecDepth 20000 in
set_option maxHeartbeats 2000000 in
theorem carryCut_any (d : Nat) (nm tn : ByteArray) (da : Option Addr) (dn dc : Nat) (M : Dk) (ms : List Bd) (B : Nat) (ob : Option Nat) (m : Bd) (ln : Nat) (w : World) (h : DkAt w B d M ms) (hs : nm.size ≤ maxLen) (hob : M.LD.atKey (kS nm) .nil = bD ob) (hq : M.queue.length ≤ 100000) (hm : m ∈ ms) (hmo : ob = some m.b) (hl : ln ≤ m.L.length) :
    Calls Tryz.prog 56 #[.pointer (some ⟨d, 0, none⟩), .agg #[.int .i64 3, .int .i64 (ln : Int), .string nm, .string tn, .slice da dn dc]] w fun e w' => e = .returned (.tuple #[]) ∧ StepOut w w' B d M M.N M.LD (onL m.b (fun L => L.take ln) (ms.map Bd.tell)) (fun q' => ((q' = [] ∧ ln = m.L.length) ∨ ∃ x : Ch, q' = [x] ∧ x.kind = 2 ∧ x.b = m.b ∧ x.at_ = ln ∧ x.bs = [] ∧ ln < m.L.length)) := by
  have hg0 : w.grownBy (w.alloc (.cells #[.int .i64 3, .int .i64 (ln : Int), .string nm, .string tn, .slice da dn dc] 33)).drew none := grownBy_drew (World.grownBy_alloc w _ none); subst hmo; have HC : Hid (Calls _ _ _ _ _) := cut_any d M ms B m ln (w.alloc (.cells #[.int .i64 3, .int .i64 (ln : Int), .string nm, .string tn, .slice da dn dc] 33)).drew (h.grown0 hg0) hm hl hq; have hdw : d < w.heap.size := (Array.getElem?_eq_some_iff.1 h.box).1
  have c0 : w.cell? ⟨d, 0, none⟩ = some (.map (some M.lb)) := by
    have h8 := h.box; rw [Dk.box] at h8; exact (zCr h8).trans rfl
  have HM : Hid (NMap w M.lb M.N M.LD) := h.dl; have HG0 : Hid (w.grownBy (w.alloc (.cells #[.int .i64 3, .int .i64 (ln : Int), .string nm, .string tn, .slice da dn dc] 33)).drew none ∧ B ≤ w.heap.size) := ⟨hg0, h.sizeB⟩; clear h hg0
  go_enter Tryz.func56, Tryz.ntmps56
  go_upto_region 1 with fail
  refine wp_region_Z (fun Y => Y.cell? ⟨d, 0, none⟩ = some (.map (some M.lb)) ∧ Y.cell? ⟨w.heap.size, 2, none⟩ = some (.string nm) ∧ NMap Y M.lb M.N M.LD) (fun _ => false) (by kernel_rfl) ?_; have hX : (w.alloc (.cells #[.int .i64 3, .int .i64 (ln : Int), .string nm, .string tn, .slice da dn dc] 33)).heap[w.heap.size]? = some (.cells #[.int .i64 3, .int .i64 (ln : Int), .string nm, .string tn, .slice da dn dc] 33 (0, 0)) := heap_alloc_new w _
  have hS : (w.alloc (.cells #[.int .i64 3, .int .i64 (ln : Int), .string nm, .string tn, .slice da dn dc] 33)).drew.cell? ⟨d, 0, none⟩ = some (.map (some M.lb)) ∧ (w.alloc (.cells #[.int .i64 3, .int .i64 (ln : Int), .string nm, .string tn, .slice da dn dc] 33)).drew.cell? ⟨w.heap.size, 2, none⟩ = some (.string nm) ∧ NMap (w.alloc (.cells #[.int .i64 3, .int .i64 (ln : Int), .string nm, .string tn, .slice da dn dc] 33)).drew M.lb M.N M.LD := by
    refine ⟨?_, (zCr hX).trans rfl, HM.out.alloc _⟩; exact (World.cell?_of_block (w := w) (a := ⟨d, 0, none⟩) (heap_alloc_old w _ hdw)).trans c0
  refine zTk 0 ?_; simp only [Act.put, zq1, zq2, zq3]; refine zTk 1 ?_; simp only [Act.put, zq1, zq2, zq3]; refine zTk 2 ?_; simp only [Act.put, zq1, zq2, zq3]; refine zLs 3 rfl hS (by intro W hW; have c0 := hW.1; go_simp; first | done | with_reducible rfl) ?_; simp only [Act.put, zq1, zq2, zq3]; refine zTk 4 ?_; simp only [Act.put, zq1, zq2, zq3]; refine zLs 5 rfl hS (by intro W hW; have c0 := hW.2.1; go_simp; first | done | with_reducible rfl) ?_; simp only [Act.put, zq1, zq2, zq3]; refine zLs 6 rfl hS (by intro W hW; have c0 := run_look hW.2.2 hs hob; go_simp; first | done | with_reducible rfl) ?_; simp only [Act.put, zq1, zq2, zq3]; refine zTk 7 ?_; simp only [Act.put, zq1, zq2, zq3]; refine wpAnyZ_done (by kernel_rfl) ?_ _; have kk : (w.alloc (.cells #[.int .i64 3, .int .i64 (ln : Int), .string nm, .string tn, .slice da dn dc] 33)).drew.cell? ⟨w.heap.size, 0, none⟩ = some (.int .i64 3) := (zCr hX).trans rfl; have ka : (w.alloc (.cells #[.int .i64 3, .int .i64 (ln : Int), .string nm, .string tn, .slice da dn dc] 33)).drew.cell? ⟨w.heap.size, 1, none⟩ = some (.int .i64 (ln : Int)) := (zCr hX).trans rfl; clear hS hX c0; simp only [bP]; go_wp2_with fail; refine HC.out.mono ?_; rintro e w1 ⟨rfl, ms1, qv1, q1, g1, g2, g3, g4, g5⟩; have HF : Hid (StepOut w w1 B d M M.N M.LD (onL m.b (fun L => L.take ln) (ms.map Bd.tell)) (fun q' => ((q' = [] ∧ ln = m.L.length) ∨ ∃ x : Ch, q' = [x] ∧ x.kind = 2 ∧ x.b = m.b ∧ x.at_ = ln ∧ x.bs = [] ∧ ln < m.L.length))) := ⟨ms1, qv1, q1, g1, g2, g3, (Moves.of_grown0 HG0.out.1).trans g4, fun k hk => (g5 k hk).trans (HG0.out.1.block k (Nat.lt_of_lt_of_le hk HG0.out.2) (by simp))⟩; clear HC g1 g2 g3 g4 g5; go_wp2; refine bodyPost_end (results_none rfl _ _ _) rfl ⟨rfl, HF.out⟩
set_option maxRecDepth 20000 in
set_option maxHeartbeats 2000000 in
theorem carryWrite_any (d : Nat) (nm tn : ByteArray) (da : Option Addr) (dn dc : Nat) (M : Dk) (ms : List Bd) (B : Nat) (ob : Option Nat) (m : Bd) (at_ : Nat) (D : List Nat) (w : World) (h : DkAt w B d M ms) (hs : nm.size ≤ maxLen) (hob : M.LD.atKey (kS nm) .nil = bD ob) (hq : M.queue.length ≤ 100000) (hm : m ∈ ms) (hmo : ob = some m.b) (hsl : SlB w da dn D) (hcap : dn ≤ dc) (hda : ∀ b off, da = some ⟨b, off, none⟩ → b < B) (hal : at_ ≤ m.L.length) (had : at_ + dn ≤ 65536) :
    Calls Tryz.prog 56 #[.pointer (some ⟨d, 0, none⟩), .agg #[.int .i64 2, .int .i64 (at_ : Int), .string nm, .string tn, .slice da dn dc]] w fun e w' => e = .returned (.tuple #[]) ∧ StepOut w w' B d M M.N M.LD (onL m.b (fun L => ov L at_ D) (ms.map Bd.tell)) (fun q' => ((q' = [] ∧ D = []) ∨ ∃ x : Ch, q' = [x] ∧ x.kind = 1 ∧ x.b = m.b ∧ x.at_ = at_ ∧ x.D = D ∧ x.bs = [] ∧ D ≠ [])) := by
  have hg0 : w.grownBy (w.alloc (.cells #[.int .i64 2, .int .i64 (at_ : Int), .string nm, .string tn, .slice da dn dc] 33)).drew none := grownBy_drew (World.grownBy_alloc w _ none); subst hmo; have HC : Hid (Calls _ _ _ _ _) := write_any d M ms B m at_ dn dc da D (w.alloc (.cells #[.int .i64 2, .int .i64 (at_ : Int), .string nm, .string tn, .slice da dn dc] 33)).drew (h.grown0 hg0) hm (hsl.grown0 hg0) hcap hda hal had hq; have hdw : d < w.heap.size := (Array.getElem?_eq_some_iff.1 h.box).1
  have c0 : w.cell? ⟨d, 0, none⟩ = some (.map (some M.lb)) := by
    have h8 := h.box; rw [Dk.box] at h8; exact (zCr h8).trans rfl
  have HM : Hid (NMap w M.lb M.N M.LD) := h.dl; have HG0 : Hid (w.grownBy (w.alloc (.cells #[.int .i64 2, .int .i64 (at_ : Int), .string nm, .string tn, .slice da dn dc] 33)).drew none ∧ B ≤ w.heap.size) := ⟨hg0, h.sizeB⟩; clear h hg0
  go_enter Tryz.func56, Tryz.ntmps56
  go_upto_region 1 with fail
  refine wp_region_Z (fun Y => Y.cell? ⟨d, 0, none⟩ = some (.map (some M.lb)) ∧ Y.cell? ⟨w.heap.size, 2, none⟩ = some (.string nm) ∧ NMap Y M.lb M.N M.LD) (fun _ => false) (by kernel_rfl) ?_; have hX : (w.alloc (.cells #[.int .i64 2, .int .i64 (at_ : Int), .string nm, .string tn, .slice da dn dc] 33)).heap[w.heap.size]? = some (.cells #[.int .i64 2, .int .i64 (at_ : Int), .string nm, .string tn, .slice da dn dc] 33 (0, 0)) := heap_alloc_new w _
  have hS : (w.alloc (.cells #[.int .i64 2, .int .i64 (at_ : Int), .string nm, .string tn, .slice da dn dc] 33)).drew.cell? ⟨d, 0, none⟩ = some (.map (some M.lb)) ∧ (w.alloc (.cells #[.int .i64 2, .int .i64 (at_ : Int), .string nm, .string tn, .slice da dn dc] 33)).drew.cell? ⟨w.heap.size, 2, none⟩ = some (.string nm) ∧ NMap (w.alloc (.cells #[.int .i64 2, .int .i64 (at_ : Int), .string nm, .string tn, .slice da dn dc] 33)).drew M.lb M.N M.LD := by
    refine ⟨?_, (zCr hX).trans rfl, HM.out.alloc _⟩; exact (World.cell?_of_block (w := w) (a := ⟨d, 0, none⟩) (heap_alloc_old w _ hdw)).trans c0
  refine zTk 0 ?_; simp only [Act.put, zq1, zq2, zq3]; refine zTk 1 ?_; simp only [Act.put, zq1, zq2, zq3]; refine zTk 2 ?_; simp only [Act.put, zq1, zq2, zq3]; refine zLs 3 rfl hS (by intro W hW; have c0 := hW.1; go_simp; first | done | with_reducible rfl) ?_; simp only [Act.put, zq1, zq2, zq3]; refine zTk 4 ?_; simp only [Act.put, zq1, zq2, zq3]; refine zLs 5 rfl hS (by intro W hW; have c0 := hW.2.1; go_simp; first | done | with_reducible rfl) ?_; simp only [Act.put, zq1, zq2, zq3]; refine zLs 6 rfl hS (by intro W hW; have c0 := run_look hW.2.2 hs hob; go_simp; first | done | with_reducible rfl) ?_; simp only [Act.put, zq1, zq2, zq3]; refine zTk 7 ?_; simp only [Act.put, zq1, zq2, zq3]; refine wpAnyZ_done (by kernel_rfl) ?_ _; have kk : (w.alloc (.cells #[.int .i64 2, .int .i64 (at_ : Int), .string nm, .string tn, .slice da dn dc] 33)).drew.cell? ⟨w.heap.size, 0, none⟩ = some (.int .i64 2) := (zCr hX).trans rfl; have ka : (w.alloc (.cells #[.int .i64 2, .int .i64 (at_ : Int), .string nm, .string tn, .slice da dn dc] 33)).drew.cell? ⟨w.heap.size, 1, none⟩ = some (.int .i64 (at_ : Int)) := (zCr hX).trans rfl; have kd : (w.alloc (.cells #[.int .i64 2, .int .i64 (at_ : Int), .string nm, .string tn, .slice da dn dc] 33)).drew.cell? ⟨w.heap.size, 4, none⟩ = some (.slice da dn dc) := (zCr hX).trans rfl; clear hS hX c0; simp only [bP]; go_wp2_with fail; refine HC.out.mono ?_; rintro e w1 ⟨rfl, ms1, qv1, q1, g1, g2, g3, g4, g5⟩; have HF : Hid (StepOut w w1 B d M M.N M.LD (onL m.b (fun L => ov L at_ D) (ms.map Bd.tell)) (fun q' => ((q' = [] ∧ D = []) ∨ ∃ x : Ch, q' = [x] ∧ x.kind = 1 ∧ x.b = m.b ∧ x.at_ = at_ ∧ x.D = D ∧ x.bs = [] ∧ D ≠ []))) := ⟨ms1, qv1, q1, g1, g2, g3, (Moves.of_grown0 HG0.out.1).trans g4, fun k hk => (g5 k hk).trans (HG0.out.1.block k (Nat.lt_of_lt_of_le hk HG0.out.2) (by simp))⟩; clear HC g1 g2 g3 g4 g5; go_wp2; refine bodyPost_end (results_none rfl _ _ _) rfl ⟨rfl, HF.out⟩
set_option maxRecDepth 20000 in
set_option maxHeartbeats 2000000 in
theorem carryRemove_any (d : Nat) (a : Int) (nm tn : ByteArray) (da : Option Addr) (dn dc : Nat) (M : Dk) (ms : List Bd) (B : Nat) (ob : Option Nat) (w : World) (h : DkAt w B d M ms) (hs : nm.size ≤ maxLen) (hob : M.LD.atKey (kS nm) .nil = bD ob) (hq : M.queue.length ≤ 100000) (hN : M.N + 1 ≤ 1000000) :
    Calls Tryz.prog 56 #[.pointer (some ⟨d, 0, none⟩), .agg #[.int .i64 5, .int .i64 a, .string nm, .string tn, .slice da dn dc]] w fun e w' => e = .returned (.tuple #[]) ∧ StepOut w w' B d M (M.N + 1) (bindD M.LD [(nm, none)]) (ms.map Bd.tell) (fun q' => ∃ x : Ch, q' = [x] ∧ x.kind = 3 ∧ x.bs = [(nm, none)]) := by
  have hg0 : w.grownBy (w.alloc (.cells #[.int .i64 5, .int .i64 a, .string nm, .string tn, .slice da dn dc] 33)).drew none := grownBy_drew (World.grownBy_alloc w _ none); have hg1 : w.grownBy ((w.alloc (.cells #[.int .i64 5, .int .i64 a, .string nm, .string tn, .slice da dn dc] 33)).alloc (.cells #[.string nm, .pointer none] 127)).drew none := grownBy_drew (grown_step (World.grownBy_alloc w _ none) (World.grownBy_alloc _ _ none) (by simp))
  have hbb : ((w.alloc (.cells #[.int .i64 5, .int .i64 a, .string nm, .string tn, .slice da dn dc] 33)).alloc (.cells #[.string nm, .pointer none] 127)).drew.heap[w.heap.size + 1]? = some (.cells #[.string nm, .pointer none] 127 (0, 0)) := by
    have h9 := heap_alloc_new (w.alloc (.cells #[.int .i64 5, .int .i64 a, .string nm, .string tn, .slice da dn dc] 33)) (.cells #[.string nm, .pointer none] 127); rw [show (w.alloc (.cells #[.int .i64 5, .int .i64 a, .string nm, .string tn, .slice da dn dc] 33)).heap.size = w.heap.size + 1 by simp] at h9; exact h9
  have hbn : BnS ((w.alloc (.cells #[.int .i64 5, .int .i64 a, .string nm, .string tn, .slice da dn dc] 33)).alloc (.cells #[.string nm, .pointer none] 127)).drew (some ⟨w.heap.size + 1, 0, none⟩) [(nm, none)] := by
    intro i y hy
    match i, hy with
    | 0, hy =>
      obtain rfl : (nm, none) = y := by simpa using hy
      exact ⟨hs, _, rfl, (zCr hbb).trans rfl, (zCr hbb).trans rfl, _, hbb⟩
  have HC : Hid (Calls _ _ _ _ _) := changeNames_any d M ms B (some ⟨w.heap.size + 1, 0, none⟩) 1 [(nm, none)] ((w.alloc (.cells #[.int .i64 5, .int .i64 a, .string nm, .string tn, .slice da dn dc] 33)).alloc (.cells #[.string nm, .pointer none] 127)).drew (h.grown0 hg1) hbn (by simp) hN hq; have HG1 : Hid (w.grownBy ((w.alloc (.cells #[.int .i64 5, .int .i64 a, .string nm, .string tn, .slice da dn dc] 33)).alloc (.cells #[.string nm, .pointer none] 127)).drew none) := hg1; clear hg1 hbb hbn; simp only [List.length_cons, List.length_nil, Nat.zero_add] at HC; have hdw : d < w.heap.size := (Array.getElem?_eq_some_iff.1 h.box).1
  have c0 : w.cell? ⟨d, 0, none⟩ = some (.map (some M.lb)) := by
    have h8 := h.box; rw [Dk.box] at h8; exact (zCr h8).trans rfl
  have HM : Hid (NMap w M.lb M.N M.LD) := h.dl; have HG0 : Hid (w.grownBy (w.alloc (.cells #[.int .i64 5, .int .i64 a, .string nm, .string tn, .slice da dn dc] 33)).drew none ∧ B ≤ w.heap.size) := ⟨hg0, h.sizeB⟩; clear h hg0
  go_enter Tryz.func56, Tryz.ntmps56
  go_upto_region 1 with fail
  refine wp_region_Z (fun Y => Y.cell? ⟨d, 0, none⟩ = some (.map (some M.lb)) ∧ Y.cell? ⟨w.heap.size, 2, none⟩ = some (.string nm) ∧ NMap Y M.lb M.N M.LD) (fun _ => false) (by kernel_rfl) ?_; have hX : (w.alloc (.cells #[.int .i64 5, .int .i64 a, .string nm, .string tn, .slice da dn dc] 33)).heap[w.heap.size]? = some (.cells #[.int .i64 5, .int .i64 a, .string nm, .string tn, .slice da dn dc] 33 (0, 0)) := heap_alloc_new w _
  have hS : (w.alloc (.cells #[.int .i64 5, .int .i64 a, .string nm, .string tn, .slice da dn dc] 33)).drew.cell? ⟨d, 0, none⟩ = some (.map (some M.lb)) ∧ (w.alloc (.cells #[.int .i64 5, .int .i64 a, .string nm, .string tn, .slice da dn dc] 33)).drew.cell? ⟨w.heap.size, 2, none⟩ = some (.string nm) ∧ NMap (w.alloc (.cells #[.int .i64 5, .int .i64 a, .string nm, .string tn, .slice da dn dc] 33)).drew M.lb M.N M.LD := by
    refine ⟨?_, (zCr hX).trans rfl, HM.out.alloc _⟩; exact (World.cell?_of_block (w := w) (a := ⟨d, 0, none⟩) (heap_alloc_old w _ hdw)).trans c0
  refine zTk 0 ?_; simp only [Act.put, zq1, zq2, zq3]; refine zTk 1 ?_; simp only [Act.put, zq1, zq2, zq3]; refine zTk 2 ?_; simp only [Act.put, zq1, zq2, zq3]; refine zLs 3 rfl hS (by intro W hW; have c0 := hW.1; go_simp; first | done | with_reducible rfl) ?_; simp only [Act.put, zq1, zq2, zq3]; refine zTk 4 ?_; simp only [Act.put, zq1, zq2, zq3]; refine zLs 5 rfl hS (by intro W hW; have c0 := hW.2.1; go_simp; first | done | with_reducible rfl) ?_; simp only [Act.put, zq1, zq2, zq3]; refine zLs 6 rfl hS (by intro W hW; have c0 := run_look hW.2.2 hs hob; go_simp; first | done | with_reducible rfl) ?_; simp only [Act.put, zq1, zq2, zq3]; refine zTk 7 ?_; simp only [Act.put, zq1, zq2, zq3]; refine wpAnyZ_done (by kernel_rfl) ?_ _; have kk : (w.alloc (.cells #[.int .i64 5, .int .i64 a, .string nm, .string tn, .slice da dn dc] 33)).drew.cell? ⟨w.heap.size, 0, none⟩ = some (.int .i64 5) := (zCr hX).trans rfl; have kn : (w.alloc (.cells #[.int .i64 5, .int .i64 a, .string nm, .string tn, .slice da dn dc] 33)).drew.cell? ⟨w.heap.size, 2, none⟩ = some (.string nm) := (zCr hX).trans rfl; clear hS hX c0; go_wp2_with fail; refine HC.out.mono ?_; rintro e w1 ⟨rfl, ms1, qv1, q1, g1, g2, g3, g4, g5⟩; have HF : Hid (StepOut w w1 B d M (M.N + 1) (bindD M.LD [(nm, none)]) (ms.map Bd.tell) (fun q' => ∃ x : Ch, q' = [x] ∧ x.kind = 3 ∧ x.bs = [(nm, none)])) := ⟨ms1, qv1, q1, g1, g2, g3, (Moves.of_grown0 HG1.out).trans g4, fun k hk => (g5 k hk).trans (HG1.out.block k (Nat.lt_of_lt_of_le hk HG0.out.2) (by simp))⟩; clear HC g1 g2 g3 g4 g5; go_wp2; refine bodyPost_end (results_none rfl _ _ _) rfl ⟨rfl, HF.out⟩
theorem Bods.add {w w' : World} {B : Nat} {ms : List Bd} (h : Bods w B ms) (hg : w.grownBy w' none) (hB : B ≤ w.heap.size) {m : Bd} (hm : BdAt w' B m) (hb : w.heap.size ≤ m.b) (hl : rowBlk m.lv = none) (hs : rowBlk m.sv = none) (hz : m.L.length ≤ 65536 ∧ m.S.length ≤ 65536) : Bods w' B (ms ++ [m]) := by
  have h' := h.grown0 hg; refine ⟨fun x hx => ?_, fun x hx => ?_, ?_, fun x hx y hy hne g hg' hc => ?_⟩
  · rcases List.mem_append.1 hx with h9 | h9
    · exact h'.each x h9
    · obtain rfl : x = m := by simpa using h9
      exact ⟨hm, hz⟩
  · rcases List.mem_append.1 hx with h9 | h9
    · exact h.low x h9
    · obtain rfl : x = m := by simpa using h9
      omega
  · rw [List.map_append]; refine List.nodup_append.2 ⟨h.one, by simp, fun a ha b hb' => ?_⟩; obtain ⟨x, hx, rfl⟩ := List.mem_map.1 ha
    obtain rfl : b = m.b := by simpa using hb'
    have := (h.each x hx).1.lt (.inl rfl)
    omega
  · rcases List.mem_append.1 hx with h9 | h9
    · rcases List.mem_append.1 hy with h8 | h8
      · exact h.apart x h9 y h8 hne g hg' hc
      · obtain rfl : y = m := by simpa using h8
        rcases hc with hc | hc
        · rw [hl] at hc; cases hc
        · rw [hs] at hc; cases hc
    · obtain rfl : x = m := by simpa using h9
      rcases hg' with hc | hc
      · rw [hl] at hc; cases hc
      · rw [hs] at hc; cases hc
theorem DkAt.add {w w' : World} {B d : Nat} {M : Dk} {ms : List Bd} (h : DkAt w B d M ms) (hg : w.grownBy w' none) {m : Bd} (hm : BdAt w' B m) (hb : w.heap.size ≤ m.b) (hl : rowBlk m.lv = none) (hs : rowBlk m.sv = none) (hz : m.L.length ≤ 65536 ∧ m.S.length ≤ 65536) : DkAt w' B d M (ms ++ [m]) := by
  have h' := h.grown0 hg
  have hT : ∀ b, Has ms b → Has (ms ++ [m]) b := fun b hb => by
    unfold Has at hb ⊢
    rw [List.map_append]; exact List.mem_append_left _ hb
  exact ⟨h'.box, h'.dl, h'.ds, h'.ne, h'.low, h.bods.add hg h.sizeB hm hb hl hs hz, h'.q, h'.chs, fun x hx => (h.refs x hx).to hT, h.refL.to hT, h.refS.to hT⟩
set_option maxRecDepth 20000 in
set_option maxHeartbeats 2000000 in
theorem carryCreate_any (d : Nat) (a : Int) (nm tn : ByteArray) (da : Option Addr) (dn dc : Nat) (M : Dk) (ms : List Bd) (B : Nat) (ob : Option Nat) (w : World) (h : DkAt w B d M ms) (hs : nm.size ≤ maxLen) (hob : M.LD.atKey (kS nm) .nil = bD ob) (hq : M.queue.length ≤ 100000) (hN : M.N + 1 ≤ 1000000) :
    Calls Tryz.prog 56 #[.pointer (some ⟨d, 0, none⟩), .agg #[.int .i64 1, .int .i64 a, .string nm, .string tn, .slice da dn dc]] w fun e w' => e = .returned (.tuple #[]) ∧ StepOut w w' B d M (M.N + 1) (bindD M.LD [(nm, some (w.heap.size + 1))]) (ms.map Bd.tell ++ [(w.heap.size + 1, [], [])]) (fun q' => ∃ x : Ch, q' = [x] ∧ x.kind = 3 ∧ x.bs = [(nm, some (w.heap.size + 1))]) := by
  have hg0 : w.grownBy (w.alloc (.cells #[.int .i64 1, .int .i64 a, .string nm, .string tn, .slice da dn dc] 33)).drew none := grownBy_drew (World.grownBy_alloc w _ none)
  have s1 : (w.alloc (.cells #[.int .i64 1, .int .i64 a, .string nm, .string tn, .slice da dn dc] 33)).heap.size = w.heap.size + 1 := by simp
  have s2 : ((w.alloc (.cells #[.int .i64 1, .int .i64 a, .string nm, .string tn, .slice da dn dc] 33)).alloc (.cells #[.slice none 0 0, .slice none 0 0, .int .i64 0] 93)).heap.size = w.heap.size + 1 + 1 := by simp
  have hg1 : w.grownBy (((w.alloc (.cells #[.int .i64 1, .int .i64 a, .string nm, .string tn, .slice da dn dc] 33)).alloc (.cells #[.slice none 0 0, .slice none 0 0, .int .i64 0] 93)).alloc (.cells #[.string nm, .pointer (some ⟨w.heap.size + 1, 0, none⟩)] 127)).drew none := grownBy_drew (grown_step (grown_step (World.grownBy_alloc w _ none) (World.grownBy_alloc _ _ none) (by simp)) (World.grownBy_alloc _ _ none) (by simp))
  have hbb : (((w.alloc (.cells #[.int .i64 1, .int .i64 a, .string nm, .string tn, .slice da dn dc] 33)).alloc (.cells #[.slice none 0 0, .slice none 0 0, .int .i64 0] 93)).alloc (.cells #[.string nm, .pointer (some ⟨w.heap.size + 1, 0, none⟩)] 127)).drew.heap[w.heap.size + 1 + 1]? = some (.cells #[.string nm, .pointer (some ⟨w.heap.size + 1, 0, none⟩)] 127 (0, 0)) := by
    have h9 := heap_alloc_new ((w.alloc (.cells #[.int .i64 1, .int .i64 a, .string nm, .string tn, .slice da dn dc] 33)).alloc (.cells #[.slice none 0 0, .slice none 0 0, .int .i64 0] 93)) (.cells #[.string nm, .pointer (some ⟨w.heap.size + 1, 0, none⟩)] 127); rw [s2] at h9; exact h9
  have hnb : (((w.alloc (.cells #[.int .i64 1, .int .i64 a, .string nm, .string tn, .slice da dn dc] 33)).alloc (.cells #[.slice none 0 0, .slice none 0 0, .int .i64 0] 93)).alloc (.cells #[.string nm, .pointer (some ⟨w.heap.size + 1, 0, none⟩)] 127)).drew.heap[w.heap.size + 1]? = some (.cells #[.slice none 0 0, .slice none 0 0, .int .i64 0] 93 (0, 0)) := by
    have h9 := heap_alloc_new (w.alloc (.cells #[.int .i64 1, .int .i64 a, .string nm, .string tn, .slice da dn dc] 33)) (.cells #[.slice none 0 0, .slice none 0 0, .int .i64 0] 93); rw [s1] at h9; exact (heap_alloc_old ((w.alloc (.cells #[.int .i64 1, .int .i64 a, .string nm, .string tn, .slice da dn dc] 33)).alloc (.cells #[.slice none 0 0, .slice none 0 0, .int .i64 0] 93)) _ (by rw [s2]; omega)).trans h9
  have hnw : BdAt (((w.alloc (.cells #[.int .i64 1, .int .i64 a, .string nm, .string tn, .slice da dn dc] 33)).alloc (.cells #[.slice none 0 0, .slice none 0 0, .int .i64 0] 93)).alloc (.cells #[.string nm, .pointer (some ⟨w.heap.size + 1, 0, none⟩)] 127)).drew B (⟨w.heap.size + 1, .slice none 0 0, .slice none 0 0, [], [], 0⟩ : Bd) := ⟨hnb, ⟨by simp, .inl ⟨rfl, none, rfl⟩⟩, ⟨by simp, .inl ⟨rfl, none, rfl⟩⟩, fun g hg => by cases hg⟩
  have hbn : BnS (((w.alloc (.cells #[.int .i64 1, .int .i64 a, .string nm, .string tn, .slice da dn dc] 33)).alloc (.cells #[.slice none 0 0, .slice none 0 0, .int .i64 0] 93)).alloc (.cells #[.string nm, .pointer (some ⟨w.heap.size + 1, 0, none⟩)] 127)).drew (some ⟨w.heap.size + 1 + 1, 0, none⟩) [(nm, some (w.heap.size + 1))] := by
    intro i y hy
    match i, hy with
    | 0, hy =>
      obtain rfl : (nm, some (w.heap.size + 1)) = y := by simpa using hy
      exact ⟨hs, _, rfl, (zCr hbb).trans rfl, (zCr hbb).trans rfl, _, hbb⟩
  have hbr : ∀ y ∈ [(nm, some (w.heap.size + 1))], ∀ b, y.2 = some b → Has (ms ++ [(⟨w.heap.size + 1, .slice none 0 0, .slice none 0 0, [], [], 0⟩ : Bd)]) b := by
    intro y hy b hb
    obtain rfl : y = (nm, some (w.heap.size + 1)) := by simpa using hy
    obtain rfl : w.heap.size + 1 = b := by simpa using hb
    unfold Has
    simp
  have HC : Hid (Calls _ _ _ _ _) := changeNames_any d M (ms ++ [(⟨w.heap.size + 1, .slice none 0 0, .slice none 0 0, [], [], 0⟩ : Bd)]) B (some ⟨w.heap.size + 1 + 1, 0, none⟩) 1 [(nm, some (w.heap.size + 1))] (((w.alloc (.cells #[.int .i64 1, .int .i64 a, .string nm, .string tn, .slice da dn dc] 33)).alloc (.cells #[.slice none 0 0, .slice none 0 0, .int .i64 0] 93)).alloc (.cells #[.string nm, .pointer (some ⟨w.heap.size + 1, 0, none⟩)] 127)).drew (h.add hg1 hnw (by show w.heap.size ≤ w.heap.size + 1; omega) rfl rfl ⟨by simp, by simp⟩) hbn hbr hN hq; rw [show (ms ++ [(⟨w.heap.size + 1, .slice none 0 0, .slice none 0 0, [], [], 0⟩ : Bd)]).map Bd.tell = ms.map Bd.tell ++ [(w.heap.size + 1, [], [])] by rw [List.map_append]; rfl] at HC; have HG1 : Hid (w.grownBy (((w.alloc (.cells #[.int .i64 1, .int .i64 a, .string nm, .string tn, .slice da dn dc] 33)).alloc (.cells #[.slice none 0 0, .slice none 0 0, .int .i64 0] 93)).alloc (.cells #[.string nm, .pointer (some ⟨w.heap.size + 1, 0, none⟩)] 127)).drew none) := hg1; clear hg1 hbb hbn hnb hnw hbr s1 s2; simp only [List.length_cons, List.length_nil, Nat.zero_add] at HC; have hdw : d < w.heap.size := (Array.getElem?_eq_some_iff.1 h.box).1
  have c0 : w.cell? ⟨d, 0, none⟩ = some (.map (some M.lb)) := by
    have h8 := h.box; rw [Dk.box] at h8; exact (zCr h8).trans rfl
  have HM : Hid (NMap w M.lb M.N M.LD) := h.dl; have HG0 : Hid (w.grownBy (w.alloc (.cells #[.int .i64 1, .int .i64 a, .string nm, .string tn, .slice da dn dc] 33)).drew none ∧ B ≤ w.heap.size) := ⟨hg0, h.sizeB⟩; clear h hg0
  go_enter Tryz.func56, Tryz.ntmps56
  go_upto_region 1 with fail
  refine wp_region_Z (fun Y => Y.cell? ⟨d, 0, none⟩ = some (.map (some M.lb)) ∧ Y.cell? ⟨w.heap.size, 2, none⟩ = some (.string nm) ∧ NMap Y M.lb M.N M.LD) (fun _ => false) (by kernel_rfl) ?_; have hX : (w.alloc (.cells #[.int .i64 1, .int .i64 a, .string nm, .string tn, .slice da dn dc] 33)).heap[w.heap.size]? = some (.cells #[.int .i64 1, .int .i64 a, .string nm, .string tn, .slice da dn dc] 33 (0, 0)) := heap_alloc_new w _
  have hS : (w.alloc (.cells #[.int .i64 1, .int .i64 a, .string nm, .string tn, .slice da dn dc] 33)).drew.cell? ⟨d, 0, none⟩ = some (.map (some M.lb)) ∧ (w.alloc (.cells #[.int .i64 1, .int .i64 a, .string nm, .string tn, .slice da dn dc] 33)).drew.cell? ⟨w.heap.size, 2, none⟩ = some (.string nm) ∧ NMap (w.alloc (.cells #[.int .i64 1, .int .i64 a, .string nm, .string tn, .slice da dn dc] 33)).drew M.lb M.N M.LD := by
    refine ⟨?_, (zCr hX).trans rfl, HM.out.alloc _⟩; exact (World.cell?_of_block (w := w) (a := ⟨d, 0, none⟩) (heap_alloc_old w _ hdw)).trans c0
  refine zTk 0 ?_; simp only [Act.put, zq1, zq2, zq3]; refine zTk 1 ?_; simp only [Act.put, zq1, zq2, zq3]; refine zTk 2 ?_; simp only [Act.put, zq1, zq2, zq3]; refine zLs 3 rfl hS (by intro W hW; have c0 := hW.1; go_simp; first | done | with_reducible rfl) ?_; simp only [Act.put, zq1, zq2, zq3]; refine zTk 4 ?_; simp only [Act.put, zq1, zq2, zq3]; refine zLs 5 rfl hS (by intro W hW; have c0 := hW.2.1; go_simp; first | done | with_reducible rfl) ?_; simp only [Act.put, zq1, zq2, zq3]; refine zLs 6 rfl hS (by intro W hW; have c0 := run_look hW.2.2 hs hob; go_simp; first | done | with_reducible rfl) ?_; simp only [Act.put, zq1, zq2, zq3]; refine zTk 7 ?_; simp only [Act.put, zq1, zq2, zq3]; refine wpAnyZ_done (by kernel_rfl) ?_ _; have kk : (w.alloc (.cells #[.int .i64 1, .int .i64 a, .string nm, .string tn, .slice da dn dc] 33)).drew.cell? ⟨w.heap.size, 0, none⟩ = some (.int .i64 1) := (zCr hX).trans rfl; have kn : (w.alloc (.cells #[.int .i64 1, .int .i64 a, .string nm, .string tn, .slice da dn dc] 33)).drew.cell? ⟨w.heap.size, 2, none⟩ = some (.string nm) := (zCr hX).trans rfl; clear hS hX c0; go_wp2_with fail; refine HC.out.mono ?_; rintro e w1 ⟨rfl, ms1, qv1, q1, g1, g2, g3, g4, g5⟩; have HF : Hid (StepOut w w1 B d M (M.N + 1) (bindD M.LD [(nm, some (w.heap.size + 1))]) (ms.map Bd.tell ++ [(w.heap.size + 1, [], [])]) (fun q' => ∃ x : Ch, q' = [x] ∧ x.kind = 3 ∧ x.bs = [(nm, some (w.heap.size + 1))])) := ⟨ms1, qv1, q1, g1, g2, g3, (Moves.of_grown0 HG1.out).trans g4, fun k hk => (g5 k hk).trans (HG1.out.block k (Nat.lt_of_lt_of_le hk HG0.out.2) (by simp))⟩; clear HC g1 g2 g3 g4 g5; go_wp2; refine bodyPost_end (results_none rfl _ _ _) rfl ⟨rfl, HF.out⟩
set_option maxRecDepth 20000 in
set_option maxHeartbeats 2000000 in
theorem carryRename_any (d : Nat) (a : Int) (nm tn : ByteArray) (da : Option Addr) (dn dc : Nat) (M : Dk) (ms : List Bd) (B : Nat) (ob : Option Nat) (m : Bd) (w : World) (h : DkAt w B d M ms) (hs : nm.size ≤ maxLen) (hob : M.LD.atKey (kS nm) .nil = bD ob) (hq : M.queue.length ≤ 100000) (hst : tn.size ≤ maxLen) (hm : m ∈ ms) (hmo : ob = some m.b) (hne : (tn.toList == nm.toList) = false) (hN : M.N + 2 ≤ 1000000) :
    Calls Tryz.prog 56 #[.pointer (some ⟨d, 0, none⟩), .agg #[.int .i64 4, .int .i64 a, .string nm, .string tn, .slice da dn dc]] w fun e w' => e = .returned (.tuple #[]) ∧ StepOut w w' B d M (M.N + 2) (bindD M.LD [(tn, some m.b), (nm, none)]) (ms.map Bd.tell) (fun q' => ∃ x : Ch, q' = [x] ∧ x.kind = 3 ∧ x.bs = [(tn, some m.b), (nm, none)]) := by
  have hg0 : w.grownBy (w.alloc (.cells #[.int .i64 4, .int .i64 a, .string nm, .string tn, .slice da dn dc] 33)).drew none := grownBy_drew (World.grownBy_alloc w _ none); subst hmo; have hg1 : w.grownBy ((w.alloc (.cells #[.int .i64 4, .int .i64 a, .string nm, .string tn, .slice da dn dc] 33)).alloc (.cells #[.string tn, .pointer (some ⟨m.b, 0, none⟩), .string nm, .pointer none] 127)).drew none := grownBy_drew (grown_step (World.grownBy_alloc w _ none) (World.grownBy_alloc _ _ none) (by simp))
  have hbb : ((w.alloc (.cells #[.int .i64 4, .int .i64 a, .string nm, .string tn, .slice da dn dc] 33)).alloc (.cells #[.string tn, .pointer (some ⟨m.b, 0, none⟩), .string nm, .pointer none] 127)).drew.heap[w.heap.size + 1]? = some (.cells #[.string tn, .pointer (some ⟨m.b, 0, none⟩), .string nm, .pointer none] 127 (0, 0)) := by
    have h9 := heap_alloc_new (w.alloc (.cells #[.int .i64 4, .int .i64 a, .string nm, .string tn, .slice da dn dc] 33)) (.cells #[.string tn, .pointer (some ⟨m.b, 0, none⟩), .string nm, .pointer none] 127); rw [show (w.alloc (.cells #[.int .i64 4, .int .i64 a, .string nm, .string tn, .slice da dn dc] 33)).heap.size = w.heap.size + 1 by simp] at h9; exact h9
  have hbn : BnS ((w.alloc (.cells #[.int .i64 4, .int .i64 a, .string nm, .string tn, .slice da dn dc] 33)).alloc (.cells #[.string tn, .pointer (some ⟨m.b, 0, none⟩), .string nm, .pointer none] 127)).drew (some ⟨w.heap.size + 1, 0, none⟩) [(tn, some m.b), (nm, none)] := by
    intro i y hy
    match i, hy with
    | 0, hy =>
      obtain rfl : (tn, some m.b) = y := by simpa using hy
      exact ⟨hst, _, rfl, (zCr hbb).trans rfl, (zCr hbb).trans rfl, _, hbb⟩
    | 1, hy =>
      obtain rfl : (nm, none) = y := by simpa using hy
      exact ⟨hs, _, rfl, (zCr hbb).trans rfl, (zCr hbb).trans rfl, _, hbb⟩
  have hbr : ∀ y ∈ [(tn, some m.b), (nm, none)], ∀ b, y.2 = some b → Has ms b := by
    intro y hy b hb
    rcases List.mem_cons.1 hy with rfl | hy
    · obtain rfl : m.b = b := by simpa using hb
      exact List.mem_map_of_mem hm
    · obtain rfl : y = (nm, none) := by simpa using hy
      cases hb
  have HC : Hid (Calls _ _ _ _ _) := changeNames_any d M ms B (some ⟨w.heap.size + 1, 0, none⟩) 2 [(tn, some m.b), (nm, none)] ((w.alloc (.cells #[.int .i64 4, .int .i64 a, .string nm, .string tn, .slice da dn dc] 33)).alloc (.cells #[.string tn, .pointer (some ⟨m.b, 0, none⟩), .string nm, .pointer none] 127)).drew (h.grown0 hg1) hbn hbr hN hq; have HG1 : Hid (w.grownBy ((w.alloc (.cells #[.int .i64 4, .int .i64 a, .string nm, .string tn, .slice da dn dc] 33)).alloc (.cells #[.string tn, .pointer (some ⟨m.b, 0, none⟩), .string nm, .pointer none] 127)).drew none) := hg1; clear hg1 hbb hbn hbr; simp only [List.length_cons, List.length_nil, Nat.zero_add] at HC; have hdw : d < w.heap.size := (Array.getElem?_eq_some_iff.1 h.box).1
  have c0 : w.cell? ⟨d, 0, none⟩ = some (.map (some M.lb)) := by
    have h8 := h.box; rw [Dk.box] at h8; exact (zCr h8).trans rfl
  have HM : Hid (NMap w M.lb M.N M.LD) := h.dl; have HG0 : Hid (w.grownBy (w.alloc (.cells #[.int .i64 4, .int .i64 a, .string nm, .string tn, .slice da dn dc] 33)).drew none ∧ B ≤ w.heap.size) := ⟨hg0, h.sizeB⟩; clear h hg0
  go_enter Tryz.func56, Tryz.ntmps56
  go_upto_region 1 with fail
  refine wp_region_Z (fun Y => Y.cell? ⟨d, 0, none⟩ = some (.map (some M.lb)) ∧ Y.cell? ⟨w.heap.size, 2, none⟩ = some (.string nm) ∧ NMap Y M.lb M.N M.LD) (fun _ => false) (by kernel_rfl) ?_; have hX : (w.alloc (.cells #[.int .i64 4, .int .i64 a, .string nm, .string tn, .slice da dn dc] 33)).heap[w.heap.size]? = some (.cells #[.int .i64 4, .int .i64 a, .string nm, .string tn, .slice da dn dc] 33 (0, 0)) := heap_alloc_new w _
  have hS : (w.alloc (.cells #[.int .i64 4, .int .i64 a, .string nm, .string tn, .slice da dn dc] 33)).drew.cell? ⟨d, 0, none⟩ = some (.map (some M.lb)) ∧ (w.alloc (.cells #[.int .i64 4, .int .i64 a, .string nm, .string tn, .slice da dn dc] 33)).drew.cell? ⟨w.heap.size, 2, none⟩ = some (.string nm) ∧ NMap (w.alloc (.cells #[.int .i64 4, .int .i64 a, .string nm, .string tn, .slice da dn dc] 33)).drew M.lb M.N M.LD := by
    refine ⟨?_, (zCr hX).trans rfl, HM.out.alloc _⟩; exact (World.cell?_of_block (w := w) (a := ⟨d, 0, none⟩) (heap_alloc_old w _ hdw)).trans c0
  refine zTk 0 ?_; simp only [Act.put, zq1, zq2, zq3]; refine zTk 1 ?_; simp only [Act.put, zq1, zq2, zq3]; refine zTk 2 ?_; simp only [Act.put, zq1, zq2, zq3]; refine zLs 3 rfl hS (by intro W hW; have c0 := hW.1; go_simp; first | done | with_reducible rfl) ?_; simp only [Act.put, zq1, zq2, zq3]; refine zTk 4 ?_; simp only [Act.put, zq1, zq2, zq3]; refine zLs 5 rfl hS (by intro W hW; have c0 := hW.2.1; go_simp; first | done | with_reducible rfl) ?_; simp only [Act.put, zq1, zq2, zq3]; refine zLs 6 rfl hS (by intro W hW; have c0 := run_look hW.2.2 hs hob; go_simp; first | done | with_reducible rfl) ?_; simp only [Act.put, zq1, zq2, zq3]; refine zTk 7 ?_; simp only [Act.put, zq1, zq2, zq3]; refine wpAnyZ_done (by kernel_rfl) ?_ _; have kk : (w.alloc (.cells #[.int .i64 4, .int .i64 a, .string nm, .string tn, .slice da dn dc] 33)).drew.cell? ⟨w.heap.size, 0, none⟩ = some (.int .i64 4) := (zCr hX).trans rfl; have kn : (w.alloc (.cells #[.int .i64 4, .int .i64 a, .string nm, .string tn, .slice da dn dc] 33)).drew.cell? ⟨w.heap.size, 2, none⟩ = some (.string nm) := (zCr hX).trans rfl; have kt : (w.alloc (.cells #[.int .i64 4, .int .i64 a, .string nm, .string tn, .slice da dn dc] 33)).drew.cell? ⟨w.heap.size, 3, none⟩ = some (.string tn) := (zCr hX).trans rfl; clear hS hX c0; simp only [bP]; go_wp2_with fail; refine HC.out.mono ?_; rintro e w1 ⟨rfl, ms1, qv1, q1, g1, g2, g3, g4, g5⟩; have HF : Hid (StepOut w w1 B d M (M.N + 2) (bindD M.LD [(tn, some m.b), (nm, none)]) (ms.map Bd.tell) (fun q' => ∃ x : Ch, q' = [x] ∧ x.kind = 3 ∧ x.bs = [(tn, some m.b), (nm, none)])) := ⟨ms1, qv1, q1, g1, g2, g3, (Moves.of_grown0 HG1.out).trans g4, fun k hk => (g5 k hk).trans (HG1.out.block k (Nat.lt_of_lt_of_le hk HG0.out.2) (by simp))⟩; clear HC g1 g2 g3 g4 g5; go_wp2; refine bodyPost_end (results_none rfl _ _ _) rfl ⟨rfl, HF.out⟩
set_option maxRecDepth 20000 in
set_option maxHeartbeats 2000000 in
theorem carryRenameSame_any (d : Nat) (a : Int) (nm tn : ByteArray) (da : Option Addr) (dn dc : Nat) (M : Dk) (ms : List Bd) (B : Nat) (ob : Option Nat) (w : World) (h : DkAt w B d M ms) (hs : nm.size ≤ maxLen) (hob : M.LD.atKey (kS nm) .nil = bD ob)(hne : (tn.toList == nm.toList) = true) :
    Calls Tryz.prog 56 #[.pointer (some ⟨d, 0, none⟩), .agg #[.int .i64 4, .int .i64 a, .string nm, .string tn, .slice da dn dc]] w fun e w' => e = .returned (.tuple #[]) ∧ w.grownBy w' none := by
  have hg0 : w.grownBy (w.alloc (.cells #[.int .i64 4, .int .i64 a, .string nm, .string tn, .slice da dn dc] 33)).drew none := grownBy_drew (World.grownBy_alloc w _ none); have hdw : d < w.heap.size := (Array.getElem?_eq_some_iff.1 h.box).1
  have c0 : w.cell? ⟨d, 0, none⟩ = some (.map (some M.lb)) := by
    have h8 := h.box; rw [Dk.box] at h8; exact (zCr h8).trans rfl
  have HM : Hid (NMap w M.lb M.N M.LD) := h.dl; have HG0 : Hid (w.grownBy (w.alloc (.cells #[.int .i64 4, .int .i64 a, .string nm, .string tn, .slice da dn dc] 33)).drew none ∧ B ≤ w.heap.size) := ⟨hg0, h.sizeB⟩; clear h hg0
  go_enter Tryz.func56, Tryz.ntmps56
  go_upto_region 1 with fail
  refine wp_region_Z (fun Y => Y.cell? ⟨d, 0, none⟩ = some (.map (some M.lb)) ∧ Y.cell? ⟨w.heap.size, 2, none⟩ = some (.string nm) ∧ NMap Y M.lb M.N M.LD) (fun _ => false) (by kernel_rfl) ?_; have hX : (w.alloc (.cells #[.int .i64 4, .int .i64 a, .string nm, .string tn, .slice da dn dc] 33)).heap[w.heap.size]? = some (.cells #[.int .i64 4, .int .i64 a, .string nm, .string tn, .slice da dn dc] 33 (0, 0)) := heap_alloc_new w _
  have hS : (w.alloc (.cells #[.int .i64 4, .int .i64 a, .string nm, .string tn, .slice da dn dc] 33)).drew.cell? ⟨d, 0, none⟩ = some (.map (some M.lb)) ∧ (w.alloc (.cells #[.int .i64 4, .int .i64 a, .string nm, .string tn, .slice da dn dc] 33)).drew.cell? ⟨w.heap.size, 2, none⟩ = some (.string nm) ∧ NMap (w.alloc (.cells #[.int .i64 4, .int .i64 a, .string nm, .string tn, .slice da dn dc] 33)).drew M.lb M.N M.LD := by
    refine ⟨?_, (zCr hX).trans rfl, HM.out.alloc _⟩; exact (World.cell?_of_block (w := w) (a := ⟨d, 0, none⟩) (heap_alloc_old w _ hdw)).trans c0
  refine zTk 0 ?_; simp only [Act.put, zq1, zq2, zq3]; refine zTk 1 ?_; simp only [Act.put, zq1, zq2, zq3]; refine zTk 2 ?_; simp only [Act.put, zq1, zq2, zq3]; refine zLs 3 rfl hS (by intro W hW; have c0 := hW.1; go_simp; first | done | with_reducible rfl) ?_; simp only [Act.put, zq1, zq2, zq3]; refine zTk 4 ?_; simp only [Act.put, zq1, zq2, zq3]; refine zLs 5 rfl hS (by intro W hW; have c0 := hW.2.1; go_simp; first | done | with_reducible rfl) ?_; simp only [Act.put, zq1, zq2, zq3]; refine zLs 6 rfl hS (by intro W hW; have c0 := run_look hW.2.2 hs hob; go_simp; first | done | with_reducible rfl) ?_; simp only [Act.put, zq1, zq2, zq3]; refine zTk 7 ?_; simp only [Act.put, zq1, zq2, zq3]; refine wpAnyZ_done (by kernel_rfl) ?_ _; have kk : (w.alloc (.cells #[.int .i64 4, .int .i64 a, .string nm, .string tn, .slice da dn dc] 33)).drew.cell? ⟨w.heap.size, 0, none⟩ = some (.int .i64 4) := (zCr hX).trans rfl; have kn : (w.alloc (.cells #[.int .i64 4, .int .i64 a, .string nm, .string tn, .slice da dn dc] 33)).drew.cell? ⟨w.heap.size, 2, none⟩ = some (.string nm) := (zCr hX).trans rfl; have kt : (w.alloc (.cells #[.int .i64 4, .int .i64 a, .string nm, .string tn, .slice da dn dc] 33)).drew.cell? ⟨w.heap.size, 3, none⟩ = some (.string tn) := (zCr hX).trans rfl; clear hS hX c0; go_wp2_with fail; refine bodyPost_end (results_none rfl _ _ _) rfl ⟨rfl, HG0.out.1⟩
def totL (P : Pb) : Nat := (P.map (fun y => y.2.1.length)).sum
def marked (c : Int) (ms : List Bd) : Nat := (ms.map (fun m => if m.k = c then m.L.length else 0)).sum
theorem marked_le (c : Int) : ∀ ms : List Bd, marked c ms ≤ totL (ms.map Bd.tell)
  | [] => Nat.le_refl _
  | m :: ms => by
    have h := marked_le c ms; simp only [marked, totL, List.map_cons, List.sum_cons] at h ⊢
    have : (if m.k = c then m.L.length else 0) ≤ m.tell.2.1.length := by
      show (if m.k = c then m.L.length else 0) ≤ m.L.length
      split <;> omega
    omega
theorem marked_put {c : Int} {m : Bd} : ∀ {ms : List Bd}, m ∈ ms → (ms.map Bd.b).Nodup → m.k ≠ c → marked c (putB { m with k := c } ms) = marked c ms + m.L.length
  | [], h, _, _ => by cases h
  | x :: ms, h, hn, hk => by
    rw [List.map_cons, List.nodup_cons] at hn
    rcases List.mem_cons.1 h with rfl | h
    · have e1 : putB { m with k := c } ms = ms := by
        rw [putB]
        conv => rhs; rw [← List.map_id ms]
        refine List.map_congr_left (fun y hy => ?_); rw [if_neg]
        · rfl
        · rintro he; exact hn.1 (he ▸ List.mem_map_of_mem hy)
      show marked c ((if m.b = m.b then { m with k := c } else m) :: putB { m with k := c } ms) = _
      rw [e1, if_pos rfl]; simp only [marked, List.map_cons, List.sum_cons, if_true, if_neg hk]
      omega
    · have h9 := marked_put h hn.2 hk
      have hx : x.b ≠ m.b := fun he => hn.1 (he ▸ List.mem_map_of_mem h)
      show marked c ((if x.b = m.b then { m with k := c } else x) :: putB { m with k := c } ms) = _
      rw [if_neg hx]; simp only [marked, List.map_cons, List.sum_cons] at h9 ⊢
      omega
theorem putB_tellK {ms : List Bd} {m : Bd} {c : Int} (hu : ∀ x ∈ ms, x.b = m.b → x = m) : (putB { m with k := c } ms).map Bd.tell = ms.map Bd.tell := by
  rw [putB, List.map_map]; refine List.map_congr_left (fun x hx => ?_)
  show Bd.tell (if x.b = m.b then { m with k := c } else x) = Bd.tell x
  split
  · rename_i h
    obtain rfl := hu x hx h
    rfl
  · rfl
structure LbSt (w wr : World) (B d : Nat) (M : Dk) (r : Nat) (P : Pb) (c : Int) (left : Lit → Bool) (cnt s : Nat) : Prop where
  rg : wr.ranges Tryz.prog 9 ptrE M.lb r M.N M.LD left cnt
  box : wr.heap[d]? = some { M with cnt := c }.box
  bods : ∃ ms2, Bods wr B ms2 ∧ ms2.map Bd.tell = P ∧ s ≤ marked c ms2
  mv : Moves [] [93, 90] w wr
  low : ∀ k, k < B → wr.heap[k]? = w.heap[k]?
  rn : w.heap.size ≤ r
theorem LbSt.next {w wr w1 : World} {B d : Nat} {M : Dk} {ms : List Bd} {r : Nat} {P : Pb} {c : Int} {left : Lit → Bool} {cnt cnt' s : Nat} {kl : Lit} (hD : DkAt w B d M ms) (h : LbSt w wr B d M r P c left cnt s) (hrg : w1.ranges Tryz.prog 9 ptrE M.lb r M.N M.LD (fun z => left z && !z.sameKey kl) cnt') (hg1 : wr.grownBy w1 (some r)) : LbSt w w1 B d M r P c (fun z => left z && !z.sameKey kl) cnt' s := by
  obtain ⟨es, ck, sc, se, c0, q1, -, -, -, q2, -⟩ := h.rg; have hT1 : Turn (fun k => k = r) wr w1 := Turn.of_grown hg1 (fun g hg => by cases hg; rfl); obtain ⟨ms2, b1, b2, b3⟩ := h.bods; have hws := h.mv.size; have hrn := h.rn; have hBw := hD.sizeB; refine ⟨hrg, hT1.blk h.box (fun hc => by have h9 := h.box; rw [show d = r from hc, q2] at h9; cases h9), ⟨ms2, b1.turn hT1 (fun k hk cur t f hc => by obtain rfl : k = r := hk; rw [q2] at hc; cases hc), b2, b3⟩, ?_, fun k hk => (hT1.block k (by omega) (by show ¬ k = r; omega)).trans (h.low k hk), h.rn⟩; exact ⟨hT1.os.trans h.mv.os, hT1.tape.trans h.mv.tape, hT1.output.trans h.mv.output, Nat.le_trans h.mv.size hT1.size, fun k hk hc => (hT1.block k (by omega) (by show ¬ k = r; omega)).trans (h.mv.block k hk hc)⟩
theorem LbSt.mark {w wr : World} {B d : Nat} {M : Dk} {ms ms2 : List Bd} {r : Nat} {P : Pb} {c : Int} {left : Lit → Bool} {cnt s : Nat} {m : Bd} (hD : DkAt w B d M ms) (h : LbSt w wr B d M r P c left cnt s) (hb : Bods wr B ms2) (ht : ms2.map Bd.tell = P) (hs : s ≤ marked c ms2) (hm : m ∈ ms2) (hk : m.k ≠ c) :
    LbSt w (wr.setCell ⟨m.b, 2, none⟩ (.int .i64 c)) B d M r P c left cnt (s + m.L.length) := by
  have hm1 := (hb.each m hm).1; have hbx : wr.heap[m.b]? = some (.cells #[m.lv, m.sv, .int .i64 m.k] 93 (0, 0)) := hm1.box; have hT : Turn (fun k => k = m.b) wr (wr.setCell ⟨m.b, 2, none⟩ (.int .i64 c)) := (Turn.refl (fun k => k = m.b) wr).set (a := ⟨m.b, 2, none⟩) (show m.b = m.b from rfl) _; have hm' : BdAt (wr.setCell ⟨m.b, 2, none⟩ (.int .i64 c)) B { m with k := c } := ⟨(heap_setCell_same wr m.b 2 _ _ _ hbx).trans rfl, hm1.live.turn hT (fun g hg hc => by subst hc; exact hm1.live.ne hbx (by decide) hg), hm1.syn.turn hT (fun g hg hc => by subst hc; exact hm1.syn.ne hbx (by decide) hg), hm1.apart⟩; have b3 := hb.put hm (m' := { m with k := c }) rfl ⟨hT.os, hT.tape, hT.output, hT.size, fun k hk hc => hT.block k hk (fun hc' => hc (.inl hc'))⟩ hm' (fun g hg => .inl hg) (hb.each m hm).2; have hMd : Moves [] [93, 90] wr (wr.setCell ⟨m.b, 2, none⟩ (.int .i64 c)) := Moves.of_turn hT (fun k _ hk => .inr (by obtain rfl : k = m.b := hk; exact ⟨_, _, _, hbx, by simp⟩)); have gg : wr.grownBy (wr.setCell ⟨m.b, 2, none⟩ (.int .i64 c)) (some m.b) := ⟨hT.os, hT.tape, hT.output, hT.size, fun k hk hne => hT.block k hk (fun hc => hne (by rw [hc]))⟩; obtain ⟨es, ck, sc, se, c0, q1, -, -, -, q2, -⟩ := h.rg
  have n1 : M.lb ≠ m.b := fun hc => by rw [← hc, q1] at hbx; cases hbx
  have n2 : r ≠ m.b := fun hc => by rw [← hc, q2] at hbx; cases hbx
  have n3 : d ≠ m.b := fun hc => by
    have h9 := h.box; rw [hc, hbx] at h9; have h8 := Option.some.inj h9
    injection h8 with _ h7 _
    exact absurd h7 (by decide)
  have hlow := hb.low m hm; have hBw := hD.sizeB; have hws := h.mv.size; refine ⟨h.rg.kept gg (by simpa using n1) (by simpa using n2), hT.blk h.box n3, ⟨_, b3, (putB_tellK (fun x hx he => hb.same hx hm he)).trans ht, ?_⟩, h.mv.trans hMd, fun k hk => (hT.block k (by omega) (by show ¬ k = m.b; omega)).trans (h.low k hk), h.rn⟩; rw [marked_put hm hb.one hk]
  omega
theorem drewN_grown (w : World) (n : Nat) : w.grownBy (w.drewN n) none := ⟨rfl, rfl, rfl, Nat.le_refl _, fun _ _ _ => rfl⟩
theorem LbSt.grown {w wr w' : World} {B d : Nat} {M : Dk} {ms : List Bd} {r : Nat} {P : Pb} {c : Int} {left : Lit → Bool} {cnt s : Nat} (hD : DkAt w B d M ms) (h : LbSt w wr B d M r P c left cnt s) (hg : wr.grownBy w' none) : LbSt w w' B d M r P c left cnt s := by
  obtain ⟨ms2, b1, b2, b3⟩ := h.bods; have hBw := hD.sizeB; have hws := h.mv.size; exact ⟨h.rg.kept hg (by simp) (by simp), grown_blk hg h.box, ⟨ms2, b1.grown0 hg, b2, b3⟩, h.mv.trans (Moves.of_grown0 hg), fun k hk => (hg.block k (by omega) (by simp)).trans (h.low k hk), h.rn⟩
def LbOut (w w' : World) (B d : Nat) (M : Dk) (P : Pb) : Prop :=
  ∃ ms' c, DkAt w' B d { M with cnt := c } ms' ∧ ms'.map Bd.tell = P ∧ Moves [] [93, 90] w w' ∧ ∀ k, k < B → w'.heap[k]? = w.heap[k]?
theorem LbSt.fin {w wr : World} {B d : Nat} {M : Dk} {ms : List Bd} {r : Nat} {P : Pb} {c : Int} {left : Lit → Bool} {cnt s : Nat} (hD : DkAt w B d M ms) (hP : P = ms.map Bd.tell) (h : LbSt w wr B d M r P c left cnt s) : LbOut w wr B d M P ∧ s ≤ totL P := by
  obtain ⟨ms2, b1, b2, b3⟩ := h.bods
  have hH : ∀ b, Has ms b → Has ms2 b := fun b hb => has_of_tell (by rw [b2, hP]) hb
  refine ⟨⟨ms2, c, ⟨h.box, h.rg.owns, h.mv.map hD.ds (by simp), hD.ne, hD.low, b1, own1_moves hD.q (Nat.le_refl _) h.mv (by decide) (by simp), fun x hx => (hD.chs x hx).moves h.mv (by decide) (by simp) h.low, fun x hx => (hD.refs x hx).to hH, hD.refL.to hH, hD.refS.to hH⟩, b2, h.mv, h.low⟩, ?_⟩; rw [← b2]; exact Nat.le_trans b3 (marked_le c ms2)
set_option maxRecDepth 20000 in
set_option maxHeartbeats 4000000 in
theorem liveBytes_any (d : Nat) (M : Dk) (ms : List Bd) (B : Nat) (w : World) (h : DkAt w B d M ms) (hb : totL (ms.map Bd.tell) ≤ 1099511627776) :
    Calls Tryz.prog 74 #[.pointer (some ⟨d, 0, none⟩)] w fun e w' => ∃ s : Nat, e = .returned (.int .i64 (s : Int)) ∧ s ≤ totL (ms.map Bd.tell) ∧ LbOut w w' B d M (ms.map Bd.tell) := by
  obtain ⟨P, hP⟩ : ∃ y, ms.map Bd.tell = y := ⟨_, rfl⟩; have HD : Hid (DkAt w B d M ms ∧ P = ms.map Bd.tell) := ⟨h, hP.symm⟩; rw [hP] at hb ⊢; have hbx : w.heap[d]? = some (.cells #[.map (some M.lb), .map (some M.sb), M.qv, .int .i64 M.cap, .int .i64 M.fuse, .bool M.off, .int .i64 M.cnt] 90 (0, 0)) := h.box; have c6 : w.cell? ⟨d, 6, none⟩ = some (.int .i64 M.cnt) := (zCr hbx).trans rfl
  have f6 : w.frozen? ⟨d, 6, none⟩ = false := by simp [World.frozen?, hbx]
  obtain ⟨c, hc⟩ : ∃ y, IntKind.i64.wrap (M.cnt + 1) = y := ⟨_, rfl⟩; have HBX : Hid ((w.setCell ⟨d, 6, none⟩ (.int .i64 c)).heap[d]? = some { M with cnt := c }.box) := (heap_setCell_same w d 6 _ _ _ hbx).trans rfl; have c0 : (w.setCell ⟨d, 6, none⟩ (.int .i64 c)).cell? ⟨d, 0, none⟩ = some (.map (some M.lb)) := (zCr HBX.out).trans rfl; have HT : Hid (Turn (fun k => k = d) w (w.setCell ⟨d, 6, none⟩ (.int .i64 c))) := (Turn.refl (fun k => k = d) w).set (a := ⟨d, 6, none⟩) (show d = d from rfl) _; have HM : Hid (Moves [] [93, 90] w (w.setCell ⟨d, 6, none⟩ (.int .i64 c))) := Moves.of_turn HT.out (fun k _ hk => .inr (by obtain rfl : k = d := hk; exact ⟨_, _, _, hbx, by simp⟩)); have HN : Hid (NMap (w.setCell ⟨d, 6, none⟩ (.int .i64 c)) M.lb M.N M.LD) := HM.out.map h.dl (by simp); have HBD : Hid (Bods (w.setCell ⟨d, 6, none⟩ (.int .i64 c)) B ms) := h.bods.moves (Moves.of_turn HT.out (fun k _ hk => .inr (by obtain rfl : k = d := hk; exact ⟨_, _, _, hbx, by simp⟩)) : Moves [] [90] w _) (by decide) (by decide) (by simp); clear h hbx hP
  go_enter Tryz.func74, Tryz.ntmps74
  go_wp2_with (first | (at_range; refine wpList_range_own _ rfl _ 87 rfl 9 91 keyS undMap ptrE M.lb M.N M.LD rfl (by first | (rw [hc]; exact HN.out) | exact HN.out) ?_; intro w0 hrg0 hg0 hs0))
  have hr0 : (w.setCell ⟨d, 6, none⟩ (.int .i64 c)).heap.size = w.heap.size := by simp
  rw [hr0] at hrg0; obtain ⟨r, hr⟩ : ∃ y, w.heap.size = y := ⟨_, rfl⟩; rw [hr] at hrg0
  have HL0 : Hid (LbSt w w0 B d M r P c (has M.LD) (Maps.size M.LD) 0) := by
    have hM0 := HM.out.trans (Moves.of_grown0 hg0); have hBw := HD.out.1.sizeB; refine ⟨hrg0, grown_blk hg0 HBX.out, ⟨ms, HBD.out.grown0 hg0, HD.out.2.symm, Nat.zero_le _⟩, hM0, fun k hk => (hg0.block k (by rw [hr0]; omega) (by simp)).trans (HT.out.block k (by omega) ?_), by omega⟩; have := HD.out.1.low.2.2
    show ¬ k = d
    omega
  rw [hr0, hr]; clear hrg0 hg0 hs0 hr0 HBD HN HM HT HBX c0 c6 f6; have HC0 : Hid (IntKind.i64.wrap (M.cnt + 1) = c) := hc; clear hc
  try go_frame
  go_loopw [3, 5] (fun sv _ wi => ∃ (s : Nat) (left : Lit → Bool) (cnt : Nat), sv = .int .i64 (s : Int) ∧ LbSt w wi B d M r P c left cnt s) (fun _ _ wi => wi.rangeLeft M.lb r)
  case atStart => exact ⟨0, _, _, rfl, HL0.out⟩
  case round =>
    obtain ⟨s, left, cnt, rfl, hcl⟩ := hrel; have HC : Hid (LbSt w wr B d M r P c left cnt s) := hcl; clear hcl HL0
    go_wp2_with (at_next; refine wpList_next_ranges _ rfl _ rfl 9 keyS ptrE Value.string bP (fun key kl hk9 => Maps.keyOf_string_inv Tryz.underlying9 hk9) (fun v y hv9 => by obtain ⟨ob, rfl, -⟩ := ptrE_inv hv9; exact ⟨ob, rfl⟩) M.lb r M.N M.LD left cnt rfl HC.out.rg ?dn ?mr)
    case dn =>
      intro hc0 hl0; clear hl0 hc0; go_wp2; go_ret; have h9 := HC.out.fin HD.out.1 HD.out.2; exact ⟨s, rfl, h9.2, h9.1⟩
    case mr =>
      intro x ob kl y1 y2 w1 cnt1 hkey hlk hv hat hrg hlt1 hg1 hs1 hen; have HN : Hid (LbSt w w1 B d M r P c (fun z => left z && !z.sameKey kl) cnt1 s ∧ cnt1 < cnt) := ⟨HC.out.next HD.out.1 hrg hg1, hlt1⟩
      have hmk : ∀ z, ptrE (bP ob) = some z → z = (bD ob, []) := fun z hz => by rw [ptrE_mk] at hz; exact (Option.some.inj hz).symm
      have hy := hmk _ hv; obtain ⟨rfl, -⟩ := Prod.mk.inj hy
      have hob : ∃ b, ob = some b := by
        cases ob with
        | some b => exact ⟨b, rfl⟩
        | none =>
          have h9 := HD.out.1.refL.2 kl (.lit (.int .i64 0)) (hat _)
          cases h9
      obtain ⟨b, rfl⟩ := hob; obtain ⟨ms2, b1, b2, b3⟩ := HN.out.1.bods; have hH : Has ms2 b := has_of_tell (by rw [b2, HD.out.2]) (HD.out.1.refL.1 kl b (hat .nil)); obtain ⟨m, hm, hmb⟩ := hH.get; subst hmb; have hm1 := (b1.each m hm).1; obtain ⟨la, lc, hlv, -⟩ := hm1.live.is; obtain ⟨ln, hln⟩ : ∃ y, m.L.length = y := ⟨_, rfl⟩; rw [hln] at hlv
      have hbx1 : w1.heap[m.b]? = some (.cells #[.slice la ln lc, m.sv, .int .i64 m.k] 93 (0, 0)) := by rw [hm1.box, Bd.blk, hlv]
      have k2 : w1.cell? ⟨m.b, 2, none⟩ = some (.int .i64 m.k) := (zCr hbx1).trans rfl; have k6 : w1.cell? ⟨d, 6, none⟩ = some (.int .i64 c) := (zCr HN.out.1.box).trans rfl; have hsb : s ≤ 1099511627776 := Nat.le_trans (HN.out.1.fin HD.out.1 HD.out.2).2 hb
      by_cases hkc : m.k = c
      · have e1 : (m.k != c) = false := by simp [hkc]
        clear hv hat hrg hlt1 hg1 hs1 hmk hy hm1 hlv hln hbx1 hkey hlk b1 b2 b3 hm hH hkc; simp only [bP] at hen ⊢; go_wp2; go_quiet (fail); have HNq : Hid (LbSt w (w1.drewN nq) B d M r P c (fun z => left z && !z.sameKey kl) cnt1 s) := HN.out.1.grown HD.out.1 (drewN_grown _ _); generalize w1.drewN nq = W2 at HNq ⊢; go_wp2; (try simp only [Act.put]); go_roundw
        case rel => exact ⟨_, _, _, rfl, HNq.out⟩
        case measure =>
          have e1 := HNq.out.rg.left_eq; have e2 := HC.out.rg.left_eq; have e3 := HN.out.2
          first | omega | (simp only []; omega) | (rw [e1, e2]; exact e3)
      · have e1 : (m.k != c) = true := by simp [hkc]
        have HB : Hid (w1.heap[m.b]? = some (.cells #[.slice la ln lc, m.sv, .int .i64 m.k] 93 (0, 0)) ∧ Bods w1 B ms2 ∧ ms2.map Bd.tell = P ∧ s ≤ marked c ms2 ∧ m ∈ ms2 ∧ m.k ≠ c ∧ m.L.length = ln) := ⟨hbx1, b1, b2, b3, hm, hkc, hln⟩
        have hlb : ln ≤ 65536 := by rw [← hln]; exact (b1.each m hm).2.1
        have v1 : IntKind.i64.wrap ((s : Int) + (ln : Int)) = (s : Int) + (ln : Int) := IntWalk.i64_in _ (by omega); clear hv hat hrg hlt1 hg1 hs1 hmk hy hm1 hlv hln hbx1 hkey hlk b1 b2 b3 hm hH hkc; simp only [bP] at hen ⊢; go_wp2; go_quiet (fail); have hgq := drewN_grown w1 nq; have HNq : Hid (LbSt w (w1.drewN nq) B d M r P c (fun z => left z && !z.sameKey kl) cnt1 s) := HN.out.1.grown HD.out.1 hgq; have hbx2 := grown_blk hgq HB.out.1; have HBq : Hid (Bods (w1.drewN nq) B ms2) := HB.out.2.1.grown0 hgq; clear hgq k2 k6; generalize w1.drewN nq = W2 at HNq hbx2 HBq ⊢; have k2 : W2.cell? ⟨m.b, 2, none⟩ = some (.int .i64 m.k) := (zCr hbx2).trans rfl; have k6 : W2.cell? ⟨d, 6, none⟩ = some (.int .i64 c) := (zCr HNq.out.box).trans rfl
        have f2 : W2.frozen? ⟨m.b, 2, none⟩ = false := by simp [World.frozen?, hbx2]
        have HS : Hid (LbSt w (W2.setCell ⟨m.b, 2, none⟩ (.int .i64 c)) B d M r P c (fun z => left z && !z.sameKey kl) cnt1 (s + ln)) := by
          rw [← HB.out.2.2.2.2.2.2]; exact HNq.out.mark HD.out.1 HBq.out HB.out.2.2.1 HB.out.2.2.2.1 HB.out.2.2.2.2.1 HB.out.2.2.2.2.2.1
        have k0 : (W2.setCell ⟨m.b, 2, none⟩ (.int .i64 c)).cell? ⟨m.b, 0, none⟩ = some (.slice la ln lc) := (zCr (heap_setCell_same W2 m.b 2 _ _ _ hbx2)).trans rfl; clear hbx2; go_wp2; (try simp only [Act.put]); go_roundw
        case rel => exact ⟨s + ln, _, _, by simp, HS.out⟩
        case measure =>
          have e1 := HS.out.rg.left_eq; have e2 := HC.out.rg.left_eq; have e3 := HN.out.2
          first | omega | (simp only []; omega) | (rw [e1, e2]; exact e3)
end Go.Proofs.YtgehhfncjoogiaaGreatDoor
