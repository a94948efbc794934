/-
  Enc2, Post, TabLaid, Take
-/
import Derived.Test.YtjnegjgpkboocaaGreatDoorWal4
import Derived.Deep.RegionHeld3
import Derived.Laws.CopyOwn
import Derived.ProofKit
import Derived.OpenShut
import Derived.ChangeOld
import Derived.Below
import Derived.WalkSmall
import Derived.Carry
import Derived.Test.YtjnegjgpkboocaaGreatDoorRows
import Derived.Lib.LaidTab
import Derived.Test.YtjnegjgpkboocaaGreatDoorWal1
import Derived.Lib.BufferMore
/-
  impl.recordSum and impl.FrameEncode, walked.
-/
namespace Go.Proofs.YtjnegjgpkboocaaGreatDoor
open Go.RowKit

theorem SlB.take {w : World} {oa : Option Addr} {len : Nat} {zs : List Nat} (h : SlB w oa len zs) (n : Nat) (hn : n ≤ len) : SlB w oa n (zs.take n) := by
  obtain ⟨h1, h2, h3⟩ := h; refine ⟨by simp; omega, fun z hz => h2 z (List.mem_of_mem_take hz), fun hn0 => ?_⟩; obtain ⟨b, off, rfl, hc⟩ := h3 (by omega); refine ⟨b, off, rfl, fun i hi => ?_⟩; rw [hc i (by omega)]
  simp [List.getD, hi]
theorem crc_lt (zs : List Nat) : Crc.crc zs < 4294967296 := by unfold Crc.crc; omega

set_option maxHeartbeats 400000 in
theorem recordSum_any (oh : Option Addr) (hlen hcap : Nat) (hz : List Nat) (oa : Option Addr) (len cap : Nat) (zs : List Nat) (w : World) (hh : SlB w oh hlen hz) (h8 : 8 ≤ hlen) (hcp : hlen ≤ hcap) (hx : hcap ≤ maxLen) (hsl : SlB w oa len zs) (ht : Tab w) (hm : len ≤ 1073741824) :
    Calls Tryz.prog 85 #[.slice oh hlen hcap, .slice oa len cap] w fun e w' => e = .returned (.int .u32 ((Crc.crc (hz.take 8 ++ zs) : Nat) : Int)) ∧ w' = w := by
  unfold maxLen at hx
  have h1 := hh.take 8 h8; have l1 : Crc.crcL 4294967295 (hz.take 8) < 4294967296 := Crc.crcL_lt _ h1.2.1 _ (by decide); have l2 : Crc.crcL (Crc.crcL 4294967295 (hz.take 8)) zs < 4294967296 := Crc.crcL_lt _ hsl.2.1 _ l1
  have HC : Hid (Crc.crc (hz.take 8 ++ zs) = 4294967295 - Crc.crcL (Crc.crcL 4294967295 (hz.take 8)) zs) := by show _ = _; unfold Crc.crc; rw [Crc.crcL_append]
  have H1 : Hid (∀ s : Nat, s < 4294967296 → _) := fun s hs => sumOver_any s hs oh 8 hcap (hz.take 8) w h1 ht (by omega)
  have H2 : Hid (∀ s : Nat, s < 4294967296 → _) := fun s hs => sumOver_any s hs oa len cap zs w hsl ht hm
  obtain ⟨b, off, rfl, -⟩ := hh.2.2 (by omega); clear hsl ht h1 hh
  go_enter Tryz.func85, Tryz.ntmps85
  go_wp2_with fail; refine (H1.out 4294967295 (by decide)).mono ?_; rintro e w1 ⟨rfl, rfl⟩; generalize Crc.crcL 4294967295 (hz.take 8) = x1 at *; go_wp2_with fail; refine (H2.out x1 l1).mono ?_; rintro e w2 ⟨rfl, rfl⟩; generalize Crc.crcL x1 zs = x at *; have e2 := not32' x l2; go_wp2; go_ret; exact ⟨ret_int (by rw [HC.out]; exact e2), rfl⟩

/-- a record's bytes -/
def encHead (ty : Nat) (zs : List Nat) : List Nat := le4 zs.length ++ [ty, 0, 0, 0]
def enc (ty : Nat) (zs : List Nat) : List Nat := encHead ty zs ++ le4 (Crc.crc (encHead ty zs ++ zs)) ++ zs ++ List.replicate (pad zs.length) 0
theorem enc_len (ty : Nat) (zs : List Nat) : (enc ty zs).length = 12 + zs.length + pad zs.length := by simp [enc, encHead, le4]; omega

/-- the row's contents, step by step -/
def st0 (zs : List Nat) : List Nat := List.replicate (12 + zs.length + pad zs.length) 0
def st1 (zs : List Nat) : List Nat := putN (st0 zs) 0 zs.length 4
def st2 (ty : Nat) (zs : List Nat) : List Nat := (st1 zs).set 4 ty
def st3 (ty : Nat) (zs : List Nat) : List Nat := putN (st2 ty zs) 8 (Crc.crc ((st2 ty zs).take 8 ++ zs)) 4
theorem st1_eq (zs : List Nat) : st1 zs = le4 zs.length ++ List.replicate (8 + zs.length + pad zs.length) 0 := by
  have h := putN_four [] [0, 0, 0, 0] (List.replicate (8 + zs.length + pad zs.length) 0) zs.length rfl
  have e : st0 zs = [] ++ [0, 0, 0, 0] ++ List.replicate (8 + zs.length + pad zs.length) 0 := by
    unfold st0
    rw [show 12 + zs.length + pad zs.length = (8 + zs.length + pad zs.length) + 4 by omega]
    simp [List.replicate_succ]
  unfold st1
  rw [e]
  simpa using h
theorem st2_eq (ty : Nat) (zs : List Nat) : st2 ty zs = encHead ty zs ++ List.replicate (4 + zs.length + pad zs.length) 0 := by
  unfold st2 encHead
  rw [st1_eq, show 8 + zs.length + pad zs.length = (4 + zs.length + pad zs.length) + 4 by omega]
  simp [le4, List.replicate_succ]
theorem st2_head (ty : Nat) (zs : List Nat) : (st2 ty zs).take 8 = encHead ty zs := by
  rw [st2_eq]; simp [encHead, le4]
theorem st3_eq (ty : Nat) (zs : List Nat) : st3 ty zs = encHead ty zs ++ le4 (Crc.crc (encHead ty zs ++ zs)) ++ List.replicate (zs.length + pad zs.length) 0 := by
  unfold st3
  rw [st2_head, st2_eq]; have h := putN_four (encHead ty zs) [0, 0, 0, 0] (List.replicate (zs.length + pad zs.length) 0) (Crc.crc (encHead ty zs ++ zs)) rfl
  have e : encHead ty zs ++ List.replicate (4 + zs.length + pad zs.length) 0 = encHead ty zs ++ [0, 0, 0, 0] ++ List.replicate (zs.length + pad zs.length) 0 := by
    rw [show 4 + zs.length + pad zs.length = (zs.length + pad zs.length) + 4 by omega]
    simp [List.replicate_succ]
  have e8 : (encHead ty zs).length = 8 := by simp [encHead, le4]
  rw [e8] at h; rw [e, h]
theorem st4_eq (ty : Nat) (zs : List Nat) : splice (st3 ty zs) 12 zs = enc ty zs := by
  rw [st3_eq]
  unfold splice enc
  have e12 : (encHead ty zs ++ le4 (Crc.crc (encHead ty zs ++ zs))).length = 12 := by simp [encHead, le4]
  generalize encHead ty zs ++ le4 (Crc.crc (encHead ty zs ++ zs)) = h12 at *; rw [List.take_append_of_le_length (by omega), List.take_of_length_le (by omega), List.drop_append, List.drop_of_length_le (by omega), e12]
  simp
theorem st2_len (ty : Nat) (zs : List Nat) : (st2 ty zs).length = 12 + zs.length + pad zs.length := by simp [st2, st1, putN_len, st0]
theorem st3_len (ty : Nat) (zs : List Nat) : (st3 ty zs).length = 12 + zs.length + pad zs.length := by simp [st3, putN_len, st2_len]
theorem pad_lt (n : Nat) : pad n < 4 := by unfold pad; omega

theorem splice_get {α : Type} (L : List α) (off : Nat) (cs : List α) (h : off + cs.length ≤ L.length) (i : Nat) : (Go.splice L off cs)[i]? = if i < off then L[i]? else if i < off + cs.length then cs[i - off]? else L[i]? := by
  have e1 : (List.take off L).length = off := by simp; omega
  unfold Go.splice
  by_cases h1 : i < off
  · rw [if_pos h1, List.getElem?_append_left (by omega), List.getElem?_take, if_pos h1]
  · rw [if_neg h1, List.getElem?_append_right (by omega), e1]
    by_cases h2 : i < off + cs.length
    · rw [if_pos h2, List.getElem?_append_left (by omega)]
    · rw [if_neg h2, List.getElem?_append_right (by omega), List.getElem?_drop]
      congr 1
      omega
theorem Own.splice {w' : World} {e : TypeId} {g off : Nat} {zs cs : List Nat} {cur : Array Value} (hz : ∀ z ∈ zs, z < 256) (hcs : ∀ z ∈ cs, z < 256) (hc : ∀ i, i < zs.length → cur[i]? = some (.int .u8 ((zs.getD i 0 : Nat) : Int)))
    (hfit : off + cs.length ≤ zs.length) (h : w'.heap[g]? = some (.cells (Go.splice cur.toList off (cs.map bv)).toArray e (0, 0))) : Own w' e g (Go.splice zs off cs) := by
  have hcur : zs.length ≤ cur.size := by
    by_cases h0 : zs.length = 0
    · omega
    · have := hc (zs.length - 1) (by omega); have := (Array.getElem?_eq_some_iff.1 this).1
      omega
  refine ⟨?_, _, h, fun i hi => ?_⟩
  · intro z hz'
    unfold Go.splice at hz'
    rcases List.mem_append.1 hz' with h1 | h1
    · exact hz z (List.mem_of_mem_take h1)
    · rcases List.mem_append.1 h1 with h2 | h2
      · exact hcs z h2
      · exact hz z (List.mem_of_mem_drop h2)
  · rw [length_splice _ _ _ hfit] at hi; have hi2 := hc i hi; rw [← Array.getElem?_toList] at hi2; simp only [List.getElem?_toArray, List.getD]; rw [splice_get _ _ _ (by simp; omega), splice_get _ _ _ hfit]
    by_cases h1 : i < off
    · rw [if_pos h1, if_pos h1, hi2]
      simp [List.getD]
    · rw [if_neg h1, if_neg h1]
      by_cases h2 : i < off + cs.length
      · rw [if_pos (by simpa using h2), if_pos h2]
        have h3 : i - off < cs.length := by omega
        simp [h3, bv]
      · rw [if_neg (by simpa using h2), if_neg h2, hi2]
        simp [List.getD]
end Go.Proofs.YtjnegjgpkboocaaGreatDoor
/-
  From 'the walk returns true and nothing old has turned' to the row's post, for a law of whatever parameters: each argument and each named variable reads as it did. Nothing here reaches the dump.
-/
namespace Go.Proofs.YtjnegjgpkboocaaGreatDoor.Post
open Go Go.ChangeShapes Go.WideShapes Go.ChangeAt Go.RowKit

section
variable {H : Type} {enc : TypeId × Value → H} {P : Program} {W W' : World}

theorem all_stays (hl : laidOutB P = true) (hb : Below W.heap.size W W') : ∀ (ts : List TypeId) (vs : List Value) (ds : List (DataW H)) (ps : List MemPlace), (ts.all fun t => P.readableRec t && decide (t < P.types.size)) = true →
    DataW.TrodAll enc P W 0 (fun _ => true) true ts vs ds ps → (∀ x ∈ ps, x.block < W.heap.size) → DataW.TrodAll enc P W' 0 (fun b => decide (b < W.heap.size)) true ts vs ds ps := by
  intro ts
  induction ts with
  | nil =>
    intro vs ds ps _ h _; obtain ⟨rfl, rfl, rfl⟩ := trodAll_nil h; exact trodAll_mk0
  | cons t ts ih =>
    intro vs ds ps hr h hlt; obtain ⟨v, vs', d, ds', p, q, rfl, rfl, rfl, h1, h2⟩ := trodAll_cons h; simp only [List.all_cons, Bool.and_eq_true, decide_eq_true_eq] at hr; exact trodAll_cons_mk (Below.trod hl hr.1.1 hr.1.2 h1 hb (fun x hx => hlt x (List.mem_append_left _ hx))) (ih vs' ds' q (by simpa using hr.2) h2 (fun x hx => hlt x (List.mem_append_right _ hx)))

theorem vars_stay (hl : laidOutB P = true) (hb : Below W.heap.size W W') : ∀ (ns : List String) (gs : List (DataW H)) (ps : List MemPlace),
    (ns.all fun n => match P.globalNamed n with
      | none => true
      | some g => decide (g < W.heap.size) && (match (P.globals[g]?).map (·.type) with
        | none => true
        | some t => P.readableRec t && decide (t < P.types.size))) = true →
    DataW.TrodVars enc P W (fun _ => true) ns gs ps → (∀ x ∈ ps, x.block < W.heap.size) → DataW.TrodVars enc P W' (fun b => decide (b < W.heap.size)) ns gs ps := by
  intro ns
  induction ns with
  | nil =>
    intro gs ps _ h _; obtain ⟨rfl, rfl⟩ := trodVars_none h; exact rfl
  | cons n ns ih =>
    intro gs ps hr h hlt
    cases gs with
    | nil => simp [DataW.TrodVars] at h
    | cons d ds =>
      obtain ⟨g, t, cs, fuel, p, q, h1, h2, h3, h4, hs, rfl⟩ := h; simp only [List.all_cons, Bool.and_eq_true] at hr; obtain ⟨hr1, hr2⟩ := hr; rw [h1] at hr1; simp only [Bool.and_eq_true, decide_eq_true_eq] at hr1; obtain ⟨hg, hr1⟩ := hr1; rw [h2] at hr1; simp only [Bool.and_eq_true, decide_eq_true_eq] at hr1; obtain ⟨fuel', h4'⟩ := Below.trod (v := .agg cs) hl hr1.1 hr1.2 (⟨fuel, h4⟩ : DataW.Trod enc P W 0 (fun _ => true) true t (.agg cs) d p) hb (fun x hx => hlt x (List.mem_append_left _ (List.mem_append_right _ hx))); exact ⟨g, t, cs, fuel', p, q, h1, h2, var?_below hb h1 hg h3, h4', ih ds q hr2 hs (fun x hx => hlt x (List.mem_append_right _ hx)), rfl⟩

/-- THE POST OF A LAW THAT RETURNS TRUE AND TURNS NOTHING OLD. -/
theorem law {s : ChangeSpec} {fn : Func} {args : Array Value} {ds gs : List (DataW H)} {before : List MemPlace} (hl : laidOutB P = true) (hb : Below W.heap.size W W')
    (hW : DataW.Whole enc P fn.params.toList s.vars false W args.toList ds gs before)
    (hps : (fn.params.toList.all fun t => P.readableRec t && decide (t < P.types.size)) = true)
    (hvs : (s.vars.all fun n => match P.globalNamed n with
      | none => true
      | some g => decide (g < W.heap.size) && (match (P.globals[g]?).map (·.type) with
        | none => true
        | some t => P.readableRec t && decide (t < P.types.size))) = true)
    {tb : TypeId} (hres : fn.resultTypes.toList = [tb]) (htb : P.underlying tb = some .bool)
    (hs : s.fn H (ds ++ gs) = { results := [.lit (.bool true)], args := ds, vars := gs }) :
    s.post enc P fn false true false false W args (.bool true) W' := by
  have hW' := hW; obtain ⟨p, q, hA, hV, rfl, hfz, hnd⟩ := hW; have hlt := hW'.lt
  have hsz : fn.resultTypes.size = 1 := by rw [← Array.length_toList, hres]; rfl
  refine ⟨ds, gs, p ++ q, [], p, q, hW', ?_, ?_, ?_, hb.frame _, fun h => by cases h⟩
  · rw [hs, hres, hsz]; exact trodAll_mk1 (shut_bool htb true)
  · rw [hs]; exact all_stays hl hb _ _ _ _ hps hA (fun x hx => hlt x (List.mem_append_left _ hx))
  · rw [hs]; exact vars_stay hl hb _ _ _ hvs hV (fun x hx => hlt x (List.mem_append_right _ hx))
end
end Go.Proofs.YtjnegjgpkboocaaGreatDoor.Post
/-
  The sum's table: what the rows' list gives (Tab), and that it stays.
-/
namespace Go.Proofs.YtjnegjgpkboocaaGreatDoor
open Go.ChangeShapes Go.WideShapes Go.ChangeAt Go.RowKit
theorem Tab_grown {w w' : World} (h : Tab w) (hg : w.grownBy w' none) : Tab w' := fun r hr =>
  (World.cell?_of_block (w := w) (a := ⟨13, r, none⟩) (hg.block _ (cell_block_lt (h r hr)) (by simp))).trans (h r hr)
theorem Tab.heap {w w' : World} (h : Tab w) (hh : w'.heap = w.heap) : Tab w' := fun r hr => (World.cell?_of_block (w := w) (by rw [hh])).trans (h r hr)
namespace TabLaid
def nm : String := "loop.example/s01723/impl.sumTable"
theorem own : ownKnob Tryz.prog.godebug = none := by kernel_rfl
theorem laidOut : laidOutB Tryz.prog = true := by kernel_rfl
theorem gTab : Tryz.prog.globalNamed nm = some 13 := by kernel_rfl
theorem gTabType : (Tryz.prog.globals[13]?).map (·.type) = some 176 := by kernel_rfl
theorem cellsTab : Tryz.prog.cellsOf 176 = 16 := by kernel_rfl
theorem cellsU32 : Tryz.prog.cellsOf 150 = 1 := by kernel_rfl
theorem table {W : World} (h : laidMetH Tryz.prog [(nm, Rows.laid_loop_example_s01723_impl_sumTable)] W) : Lib.TabIs Tryz.prog W nm .u32 [0, 274646895, 549293790, 820201905, 1098587580, 1361435347, 1640403810, 1905808397, 2197175160, 2460548119, 2722870694, 2987750089, 3280807620, 3553878443, 3811616794, 4084100981] :=
  Lib.tabIs_of_head (rest := []) gTab gTabType Tryz.underlying176 Tryz.underlying150 cellsU32 cellsTab h
theorem tab {W : World} (h : laidMetH Tryz.prog [(nm, Rows.laid_loop_example_s01723_impl_sumTable)] W) : Tab W := by
  intro r hr; have h1 := (table h).cell gTab r (by simpa using hr); rw [h1]
  have h2 : ∀ r, r < 16 → ([0, 274646895, 549293790, 820201905, 1098587580, 1361435347, 1640403810, 1905808397, 2197175160, 2460548119, 2722870694, 2987750089, 3280807620, 3553878443, 3811616794, 4084100981] : List Int).getD r 0 = ((Crc.step4 r : Nat) : Int) := by decide
  rw [← h2 r hr]
theorem vars_ok {W : World} (hT : Tab W) : ([nm].all fun n => match Tryz.prog.globalNamed n with
      | none => true
      | some g => decide (g < W.heap.size) && (match (Tryz.prog.globals[g]?).map (·.type) with
        | none => true
        | some t => Tryz.prog.readableRec t && decide (t < Tryz.prog.types.size))) = true := by
  have hg0 : 13 < W.heap.size := cell_block_lt (hT 0 (by decide)); simp only [List.all_cons, List.all_nil, Bool.and_true, gTab, gTabType, Bool.and_eq_true, decide_eq_true_eq]; exact ⟨hg0, by kernel_rfl, of_decide_eq_true (by kernel_rfl)⟩
end TabLaid
end Go.Proofs.YtjnegjgpkboocaaGreatDoor
/-
  slices.Clone of bytes, walked.
-/
namespace Go.Proofs.YtjnegjgpkboocaaGreatDoor
open Go.RowKit

/-- slices.Clone of bytes that aren't nil -/
theorem clone_some (a : Addr) (len cap : Nat) (zs : List Nat) (w : World) (hsl : SlB w (some a) len zs) (hm : len ≤ 1073741824) :
    Calls Tryz.prog 78 #[.slice (some a) len cap] w fun e w' => ∃ g cp, e = .returned (.slice (some ⟨g, 0, none⟩) len cp) ∧ w.heap.size ≤ g ∧ Own w' 5 g zs ∧ w.grownBy w' none := by
  obtain ⟨i0, TB⟩ := byteT; have HS : Hid (SlB w (some a) len zs) := hsl; have HZ : Hid (∀ z ∈ zs, z < 256) := hsl.2.1
  have heq : ∀ w', (binOp .eql 37 (.slice (some a) len cap) (.slice none 0 0)).run Tryz.prog w' = .ok (.bool false) w' := fun w' => Lib.run_eql_slice_some_nil w' a len cap Tryz.underlying37
  clear hsl
  go_enter Tryz.func78, Tryz.ntmps78
  go_wp2_with (at_builtin; refine wpList_append_b (by rfl) (.tmp 5) (.tmp 6) TB (by rfl) (base := w.heap.size) (g := w.heap.size) (n := 0) (cap := 0) (xs := []) (by rfl) (by exact World.ownsRow_made w #[] 0 (Nat.le_refl _) (Nat.zero_le _) rfl) (oa := some a) (m := len) (c := cap) (zs := zs) (by rfl) (by exact HS.out.grown0 (World.grownBy_alloc _ _ _)) (by omega) (by simp) ?_; intro g' cap' w1 hown' hgr hat hsz1)
  go_ret; have C1 : w.grownBy w1 none := grown_next hgr.out (World.grownBy_alloc w _ _) ⟨rfl, rfl, rfl, rfl⟩ (Nat.le_refl _); have h1 := hown'.out; rw [Nat.zero_add, List.nil_append] at h1; exact ⟨g', cap', rfl, (h1.lt g' rfl).1, own_made h1 HZ.out, C1⟩
end Go.Proofs.YtjnegjgpkboocaaGreatDoor
