/- What calls make of a right allocator, plainly: it stays right. No program. -/
import Derived.Test.YtnpjbddannkgfaaAlM
namespace Go.Proofs.Ytnpjbddannkgfaa
open Go.Spans Go.Alloc
section
variable {f n : Nat} {xs ys : List Sp} {L M : List Ch} {W W' : List Nat}
theorem elems_nodup (h : Ok n xs) : (elems xs).Nodup := (elems_lt h).imp (fun h => Nat.ne_of_lt h)
/-- What Take hands out, if it is right. -/
theorem take_facts (h : Ok n xs) {k : Int} (hE : takeE xs k = 0) : 1 ≤ k ∧ k ≤ (cnt xs : Int) ∧ takeL xs k = (elems xs).take k.toNat ∧ (takeL xs k).length = k.toNat ∧ ∀ j, hasB (takeX xs k) j = (hasB xs j && !decide (j ∈ takeL xs k)) := by
  have hk : 1 ≤ k ∧ k ≤ (cnt xs : Int) := by
    unfold takeE at hE
    split at hE
    · omega
    · split at hE
      · omega
      · omega
  have hn : ¬ (k < 1 ∨ (cnt xs : Int) < k) := by omega
  have e1 : takeL xs k = (elems xs).take k.toNat := by unfold takeL; rw [if_neg hn]
  have hl : k.toNat ≤ (elems xs).length := by rw [elems_len]; omega
  refine ⟨hk.1, hk.2, e1, by rw [e1, List.length_take, Nat.min_eq_left hl], fun j => ?_⟩
  have := take_has h (k := k.toNat) (by omega) (by omega) j
  rw [e1, ← this]
  unfold takeX
  rw [if_neg hn, List.getD, List.getElem?_eq_getElem (by omega)]
  rfl
theorem inv_alloc (h : Go.Alloc.Inv f n xs L W) {k : Int} (hE : takeE xs k = 0) (hok : Ok n (takeX xs k)) : Go.Alloc.Inv f n (takeX xs k) (insC ⟨takeL xs k, 1, false⟩ L) W ∧ (∃ p, (takeL xs k)[0]? = some p ∧ p ≤ 4096 ∧ ∀ x ∈ L, x.place ≠ p) ∧ (takeL xs k).length ≤ 4096 ∧ ∀ j ∈ takeL xs k, hasB xs j = true := by
  obtain ⟨h1, h2, h3, h4, h5⟩ := take_facts h.ok hE
  have hmem : ∀ j ∈ takeL xs k, hasB xs j = true := fun j hj => (mem_elems h.ok).1 (by rw [h3] at hj; exact List.mem_of_mem_take hj)
  have hc := cnt_le h.ok
  have hhi := h.hi
  have hp0 : (takeL xs k)[0]? = some ((takeL xs k)[0]'(by rw [h4]; omega)) := List.getElem?_eq_getElem _
  obtain ⟨p, ep⟩ : ∃ p, (takeL xs k)[0]'(by rw [h4]; omega) = p := ⟨_, rfl⟩
  rw [ep] at hp0
  have hpm := List.mem_of_getElem? hp0
  have hpl : (⟨takeL xs k, 1, false⟩ : Ch).place = p := by
    unfold Ch.place
    cases ht : takeL xs k with
    | nil => rw [ht] at hp0; cases hp0
    | cons a l => rw [ht] at hp0; simpa using hp0
  have hnew : ∀ x ∈ L, x.place ≠ p := fun x hx e => by
    have := (h.sec hx (place_mem (h.ne x hx))).2.2.1
    rw [e, hmem p hpm] at this
    cases this
  have hlt : p < n := hasB_lt h.ok (hmem p hpm)
  have hnd : (elems (takeX xs k) ++ takeL xs k).Nodup := by
    refine List.nodup_append.2 ⟨elems_nodup hok, ?_, fun a ha b hb => ?_⟩
    · rw [h3]; exact (elems_nodup h.ok).sublist (List.take_sublist _ _)
    · rintro rfl
      rw [mem_elems hok, h5 a] at ha
      simp [hb] at ha
  have hperm : (elems xs).Perm (elems (takeX xs k) ++ takeL xs k) := perm_elems h.ok hok hnd fun j => by
    rw [h5 j]
    by_cases hj : j ∈ takeL xs k
    · simp [hj, hmem j hj]
    · simp [hj]
  refine ⟨⟨hok, h.lt, h.hi, insC_srt h.srt (fun x hx => by rw [hpl]; exact hnew x hx), fun c hc => ?_, fun c hc => ?_, ?_⟩, ⟨p, hp0, by omega, hnew⟩, by omega, hmem⟩
  · rcases insC_mem.1 hc with rfl | hc
    · intro e
      have e0 : takeL xs k = [] := e
      have : (takeL xs k).length = 0 := by rw [e0]; rfl
      omega
    · exact h.ne c hc
  · rcases insC_mem.1 hc with rfl | hc
    · simp
    · exact h.refs c hc
  · have e1 : (allS (insC ⟨takeL xs k, 1, false⟩ L)).Perm (takeL xs k ++ allS L) := by
      unfold allS
      exact (List.Perm.flatMap_right _ (insC_perm _ _)).trans (by rw [List.flatMap_cons])
    refine List.Perm.trans ?_ h.part
    refine (List.Perm.append_left _ (List.Perm.append_left _ e1)).trans ?_
    refine List.Perm.trans ?_ (List.Perm.append_right _ hperm.symm)
    rw [List.append_assoc]
    refine List.Perm.append_left _ ?_
    rw [← List.append_assoc, ← List.append_assoc]
    exact List.Perm.append_right _ List.perm_append_comm
theorem setC_refs {p : Int} {g : Ch → Ch} (h : ∀ c ∈ L, 1 ≤ c.refs ∧ c.refs ≤ 65535) (hg : ∀ c, findC L p = some c → 1 ≤ (g c).refs ∧ (g c).refs ≤ 65535) (hs : Srt L) : ∀ c ∈ setC L p g, 1 ≤ c.refs ∧ c.refs ≤ 65535 := by
  intro c hc
  obtain ⟨d, hd, rfl⟩ := List.mem_map.1 hc
  split
  · rename_i e
    have := findC_mem hs hd
    rw [e] at this
    exact hg d this
  · exact h d hd
theorem inv_set (h : Go.Alloc.Inv f n xs L W) {p : Int} {g : Ch → Ch} (hs : ∀ c, (g c).secs = c.secs) (hg : ∀ c, findC L p = some c → 1 ≤ (g c).refs ∧ (g c).refs ≤ 65535) : Go.Alloc.Inv f n xs (setC L p g) W :=
  h.secs (setC_places hs) (setC_refs h.refs hg h.srt)
theorem inv_gone_sure (h : Go.Alloc.Inv f n xs L W) {p : Int} {c : Ch} (hc : findC L p = some c) (hW : W'.Perm (c.secs ++ W)) : Go.Alloc.Inv f n xs (eraC L p) W' := by
  have hp := eraC_perm h.srt hc
  refine ⟨h.ok, h.lt, h.hi, eraC_srt h.srt p, fun d hd => h.ne d (eraC_mem.1 hd).1, fun d hd => h.refs d (eraC_mem.1 hd).1, ?_⟩
  refine List.Perm.trans ?_ h.part
  refine List.Perm.append_left _ ?_
  have e1 : (allS L).Perm (c.secs ++ allS (eraC L p)) := by
    unfold allS
    exact (List.Perm.flatMap_right _ hp).trans (by rw [List.flatMap_cons])
  refine (List.Perm.append_right _ hW).trans ?_
  refine List.Perm.trans ?_ (List.Perm.append_left _ e1.symm)
  rw [← List.append_assoc]
  exact List.Perm.append_right _ List.perm_append_comm
theorem inv_gone_free (h : Go.Alloc.Inv f n xs L W) {p : Int} {c : Ch} (hc : findC L p = some c) (hok : Ok n ys) (hys : ∀ j, hasB ys j = (hasB xs j || decide (j ∈ c.secs))) : Go.Alloc.Inv f n ys (eraC L p) W := by
  have hp := eraC_perm h.srt hc
  have hcm := (findC_some hc).1
  refine ⟨hok, h.lt, h.hi, eraC_srt h.srt p, fun d hd => h.ne d (eraC_mem.1 hd).1, fun d hd => h.refs d (eraC_mem.1 hd).1, ?_⟩
  have hcn : c.secs.Nodup := by
    have := h.snodup
    obtain ⟨a, b, e⟩ := List.append_of_mem hcm
    rw [e] at this
    unfold allS at this
    rw [List.flatMap_append, List.flatMap_cons] at this
    exact (List.nodup_append.1 (List.nodup_append.1 this).2.1).1
  have hE : (elems ys).Perm (elems xs ++ c.secs) := by
    refine perm_elems hok h.ok (List.nodup_append.2 ⟨elems_nodup h.ok, hcn, fun a ha b hb => ?_⟩) fun j => by rw [hys j]; simp
    rintro rfl
    have := (h.sec hcm hb).2.2.1
    rw [(mem_elems h.ok).1 ha] at this
    cases this
  have e1 : (allS L).Perm (c.secs ++ allS (eraC L p)) := by
    unfold allS
    exact (List.Perm.flatMap_right _ hp).trans (by rw [List.flatMap_cons])
  refine List.Perm.trans ?_ h.part
  refine (List.Perm.append_right _ hE).trans ?_
  rw [List.append_assoc]
  refine List.Perm.append_left _ ?_
  refine List.Perm.trans ?_ (List.Perm.append_left _ e1.symm)
  rw [← List.append_assoc, ← List.append_assoc]
  exact List.Perm.append_right _ List.perm_append_comm
theorem inv_commit (h : Go.Alloc.Inv f n xs L W) (hok : Ok n ys) (hys : ∀ j, hasB ys j = (hasB xs j || decide (j ∈ W))) : Go.Alloc.Inv f n ys (sureC L) [] := by
  refine ⟨hok, h.lt, h.hi, srt_secs h.srt (sureC_secs L), fun c hc => ?_, fun c hc => ?_, ?_⟩
  · obtain ⟨d, hd, rfl⟩ := List.mem_map.1 hc
    exact h.ne d hd
  · obtain ⟨d, hd, rfl⟩ := List.mem_map.1 hc
    exact h.refs d hd
  · have hE : (elems ys).Perm (elems xs ++ W) := by
      refine perm_elems hok h.ok (List.nodup_append.2 ⟨elems_nodup h.ok, h.wnodup, fun a ha b hb => ?_⟩) fun j => by rw [hys j]; simp
      rintro rfl
      have := (h.wait hb).2.2
      rw [(mem_elems h.ok).1 ha] at this
      cases this
    rw [allS_secs (sureC_secs L), List.nil_append]
    refine List.Perm.trans ?_ h.part
    refine (List.Perm.append_right _ hE).trans ?_
    rw [List.append_assoc]
end
end Go.Proofs.Ytnpjbddannkgfaa
